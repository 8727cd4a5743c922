/-
  A part taken once: the program.
  Conditions: the parts lie in memory, in all at most 2^20 numbers; the program's variables hold their sentinels.
-/
import Derived.Test.YtedjclnojocjkaaGreatDoorShelves
namespace Go.Proofs.YtedjclnojocjkaaGreatDoor.Parts
open Go Go.RowKit Go.Proofs.YtedjclnojocjkaaGreatDoor.Mem Go.Proofs.YtedjclnojocjkaaGreatDoor.Adr Go.Proofs.YtedjclnojocjkaaGreatDoor.Res Go.Proofs.YtedjclnojocjkaaGreatDoor.Errs

set_option maxRecDepth 100000 in
theorem nil_neqT : ∀ w : World, (binOp .neq 68 .nilIface .nilIface).run Tryz.prog w = .ok (.bool false) w := fun _ => rfl
set_option maxRecDepth 100000 in
theorem sent_neqT (a : Addr) : ∀ w : World, (binOp .neq 68 (.iface 166 (.pointer (some a))) .nilIface).run Tryz.prog w = .ok (.bool true) w := fun _ => rfl

set_option maxHeartbeats 2000000 in
set_option maxRecDepth 100000 in
/-- The list is no store. -/
theorem changed_badT (lo hi B : Nat) (w : World) (a : Option Addr) (n c : Nat) (l : List Prt) (a0 : Addr) (hr : PRow lo hi w a n l) (hh : hi ≤ w.heap.size) (hm : room l ≤ 1048576) (hg : NoStore a0 w) (hst : storeB l = false) :
    Calls Tryz.prog 74 #[.slice a n c, (.func (.func 53) #[] #[.pointer (some ⟨B, 0, none⟩)])] w fun e w' => e = .returned (.tuple #[.slice none 0 0, sent a0]) ∧ Below w.heap.size w w' := by
  have hC := check_store lo hi w a n c l a0 hr hh (Nat.le_succ_of_le hm) hg
  rw [hst, show verdict false a0 = sent a0 from rfl] at hC
  have h1 := sent_neqT a0
  unfold sent at hC ⊢
  clear hr
  go_enter Tryz.func74, Tryz.ntmps74
  go_wp2_with fail
  go_at_call 51
  refine hC.mono ?_
  rintro e w1 ⟨rfl, hb⟩
  go_wp2
  go_ret2
  exact ⟨rfl, hb⟩

set_option maxHeartbeats 2000000 in
set_option maxRecDepth 100000 in
/-- The change fails. -/
theorem changed_noT (lo hi B : Nat) (w : World) (a : Option Addr) (n c : Nat) (l : List Prt) (Fb : Nat → Body) (a0 a1 : Addr) (hr : PRow lo hi w a n l) (hh : hi ≤ w.heap.size) (hm : room l ≤ 1048576) (hg : NoStore a0 w) (hst : storeB l = true)
    (hF : ∀ i, i < n → ∃ b off, a = some ⟨b, off, none⟩ ∧ lo ≤ b ∧ b < hi ∧ Cells7 w b (off + i * 7) (pt l i) (Fb i).1 (Fb i).2 ∧ (pt l i).Wf)
    (hch : ∀ (W : World) (b : Nat), Below w.heap.size w W → w.heap.size ≤ b → Shelf b n W (its l Fb n) → Calls Tryz.prog 53 #[.map (some b), .pointer (some ⟨B, 0, none⟩)] W fun e w' => e = .returned (sent a1) ∧ Below W.heap.size W w') :
    Calls Tryz.prog 74 #[.slice a n c, (.func (.func 53) #[] #[.pointer (some ⟨B, 0, none⟩)])] w fun e w' => e = .returned (.tuple #[.slice none 0 0, sent a1]) ∧ Below w.heap.size w w' := by
  have hC := check_store lo hi w a n c l a0 hr hh (Nat.le_succ_of_le hm) hg
  rw [hst, show verdict true a0 = .nilIface from rfl] at hC
  have hlen := hr.len
  obtain ⟨h30, _, hrise⟩ := (storeB_iff l).1 hst
  have h0 := nil_neqT
  have h1 := sent_neqT a1
  have HL := Lib.hid hlen
  unfold sent at hch ⊢
  clear hr hm hg hst hlen
  go_enter Tryz.func74, Tryz.ntmps74
  go_wp2_with fail
  go_at_call 51
  refine hC.mono ?_
  rintro e w1 ⟨rfl, hb1⟩
  have hs1 := hb1.size
  have hO := shelf_of lo hi w1 a n c l Fb HL.out (by have := HL.out; omega) hrise (Nat.le_trans hh hs1) (fun i hi' => by
    obtain ⟨b, off, e1, e2, e3, e4, e5⟩ := hF i hi'
    exact ⟨b, off, e1, e2, e3, e4.keep (hb1.block _ (by omega)), e5⟩)
  clear hC hF hrise
  go_wp2_with fail
  go_at_call 92
  refine hO.mono ?_
  rintro e w2 ⟨rfl, hsh, hb2⟩
  have hB2 := hb1.trans (hb2.mono hs1)
  have hD := hch w2 w1.heap.size hB2 hs1 hsh
  clear hO hch hsh
  go_wp2_with fail
  go_at_call 53
  refine hD.mono ?_
  rintro e w3 ⟨rfl, hb3⟩
  have hB3 := hB2.trans (hb3.mono hB2.size)
  go_wp2
  go_ret2
  exact ⟨rfl, hB3⟩

set_option maxHeartbeats 2000000 in
set_option maxRecDepth 100000 in
/-- The change is made. -/
theorem changed_yesT (lo hi B : Nat) (w : World) (a : Option Addr) (n c : Nat) (l : List Prt) (Fb : Nat → Body) (a0 : Addr) (m : List Item) (hr : PRow lo hi w a n l) (hh : hi ≤ w.heap.size) (hm : room l ≤ 1048576) (hg : NoStore a0 w) (hst : storeB l = true)
    (hF : ∀ i, i < n → ∃ b off, a = some ⟨b, off, none⟩ ∧ lo ≤ b ∧ b < hi ∧ Cells7 w b (off + i * 7) (pt l i) (Fb i).1 (Fb i).2 ∧ (pt l i).Wf)
    (hch : ∀ (W : World) (b : Nat), Below w.heap.size w W → w.heap.size ≤ b → Shelf b n W (its l Fb n) → Calls Tryz.prog 53 #[.map (some b), .pointer (some ⟨B, 0, none⟩)] W fun e w' => e = .returned .nilIface ∧ Shelf b (n + 1) w' m ∧ Below b W w')
    (hri : Rising m) (hmm : room (m.map (·.1)) ≤ 1048577) (hml : m.length ≤ 1000) (hmb : ∀ x ∈ m, Lain 0 w.heap.size w x.1 x.2.1 x.2.2 ∧ x.1.Wf) :
    Calls Tryz.prog 74 #[.slice a n c, (.func (.func 53) #[] #[.pointer (some ⟨B, 0, none⟩)])] w fun e w' => ∃ v G, e = .returned (.tuple #[v, verdict (storeB (m.map (·.1))) a0]) ∧ PBuf 62 w.heap.size w'.heap.size w' v m.length (m.map (·.1)) G ∧ Below w.heap.size w w' := by
  have hC := check_store lo hi w a n c l a0 hr hh (Nat.le_succ_of_le hm) hg
  rw [hst, show verdict true a0 = .nilIface from rfl] at hC
  have hlen := hr.len
  obtain ⟨h30, _, hrise⟩ := (storeB_iff l).1 hst
  have h0 := nil_neqT
  have HL := Lib.hid hlen
  obtain ⟨R, hR⟩ : ∃ R, storeB (m.map (·.1)) = R := ⟨_, rfl⟩
  rw [hR]
  have HR := Lib.hid hR
  clear hr hm hst hlen hR
  go_enter Tryz.func74, Tryz.ntmps74
  go_wp2_with fail
  go_at_call 51
  refine hC.mono ?_
  rintro e w1 ⟨rfl, hb1⟩
  have hs1 := hb1.size
  have hO := shelf_of lo hi w1 a n c l Fb HL.out (by have := HL.out; omega) hrise (Nat.le_trans hh hs1) (fun i hi' => by
    obtain ⟨b, off, e1, e2, e3, e4, e5⟩ := hF i hi'
    exact ⟨b, off, e1, e2, e3, e4.keep (hb1.block _ (by omega)), e5⟩)
  clear hC hF hrise
  go_wp2_with fail
  go_at_call 92
  refine hO.mono ?_
  rintro e w2 ⟨rfl, hsh, hb2⟩
  have hB2 := hb1.trans (hb2.mono hs1)
  have hD := hch w2 w1.heap.size hB2 hs1 hsh
  clear hO hch hsh
  go_wp2_with fail
  go_at_call 53
  refine hD.mono ?_
  rintro e w3 ⟨rfl, hsh3, hb3⟩
  have hB3 := hB2.trans (hb3.mono hs1)
  have hs3 := hB3.size
  have hS := sorted_list 0 w.heap.size w1.heap.size (n + 1) w3 m hsh3 (by have := HL.out; omega) hri hmm hml (fun x hx => ⟨(hmb x hx).1.keep (fun i _ _ h2 => hB3.block i h2), (hmb x hx).2⟩)
  clear hD hsh3 hmb hri
  go_wp2_with fail
  go_at_call 93
  refine hS.mono ?_
  rintro e w4 ⟨v, G, rfl, hv, hb4⟩
  obtain ⟨va, vc, rfl, _, _, hpo⟩ := hv.shape
  have hB4 := hB3.trans (hb4.mono hs3)
  have hs4 := hb4.size
  have hC2 := check_store _ _ w4 va m.length vc (m.map (·.1)) a0 hpo.row (Nat.le_refl _) hmm (hg.below hB4)
  rw [HR.out] at hC2
  clear hS hpo
  go_wp2_with fail
  go_at_call 51
  refine hC2.mono ?_
  rintro e w5 ⟨rfl, hb5⟩
  have hB5 := hB4.trans (hb5.mono hB4.size)
  have hv5 := ((hv.under hb5 (Nat.le_refl _)).down hs3).more hb5.size
  go_wp2
  go_ret2
  exact ⟨_, G, rfl, hv5, hB5⟩

set_option maxHeartbeats 2000000 in
set_option maxRecDepth 100000 in
/-- A copy is handed back. -/
theorem copiedT (lo hi B : Nat) (w : World) (a : Option Addr) (n c : Nat) (l : List Prt) (ax : Addr) (hr : PRow lo hi w a n l) (hh : hi ≤ w.heap.size) (hm : room l ≤ 1048576)
    (hch : Calls Tryz.prog 74 #[.slice a n c, (.func (.func 53) #[] #[.pointer (some ⟨B, 0, none⟩)])] w fun e w' => (∃ A N C, e = .returned (.tuple #[.slice A N C, sent ax])) ∧ Below w.heap.size w w') :
    Calls Tryz.prog 35 #[.slice a n c, (.func (.func 53) #[] #[.pointer (some ⟨B, 0, none⟩)])] w (PAns w.heap.size l false w) := by
  have h1 := sent_neqT ax
  have HL := Lib.hid hr.len
  unfold sent at hch
  go_enter Tryz.func35, Tryz.ntmps35
  go_wp2_with fail
  go_at_call 74
  refine hch.mono ?_
  rintro e w1 ⟨⟨A, N, C, rfl⟩, hb1⟩
  have hs1 := hb1.size
  have hC := copy_parts lo hi w1 a n c l (hr.under hb1 hh) (Nat.le_trans hh hs1) hm
  clear hch hr
  go_wp2_with fail
  go_at_call 75
  refine hC.mono ?_
  rintro e w2 ⟨v, G, rfl, hv, hb2⟩
  go_wp2
  go_ret2
  exact ⟨v, G, rfl, by rw [HL.out]; exact hv.down hs1, hb1.trans (hb2.mono hs1)⟩

set_option maxHeartbeats 2000000 in
set_option maxRecDepth 100000 in
/-- The changed list is handed back. -/
theorem handedT (B : Nat) (w : World) (a : Option Addr) (n c : Nat) (R : List Prt)
    (hch : Calls Tryz.prog 74 #[.slice a n c, (.func (.func 53) #[] #[.pointer (some ⟨B, 0, none⟩)])] w fun e w' => ∃ v G, e = .returned (.tuple #[v, .nilIface]) ∧ PBuf 62 w.heap.size w'.heap.size w' v R.length R G ∧ Below w.heap.size w w') :
    Calls Tryz.prog 35 #[.slice a n c, (.func (.func 53) #[] #[.pointer (some ⟨B, 0, none⟩)])] w (PAns w.heap.size R true w) := by
  have h0 := nil_neqT
  go_enter Tryz.func35, Tryz.ntmps35
  go_wp2_with fail
  go_at_call 74
  refine hch.mono ?_
  rintro e w1 ⟨v, G, rfl, hv, hb1⟩
  obtain ⟨va, vc, rfl⟩ := hv.slice
  clear hch
  go_wp2
  go_ret2
  exact ⟨_, G, rfl, hv, hb1⟩

theorem fnd_lk {l : List Prt} (Fb : Nat → Body) (hrise : l.Pairwise (fun P Q => P.d < Q.d)) (d : Int) : lk d (its l Fb l.length) = if fnd d l < l.length then some (pt l (fnd d l), Fb (fnd d l)) else none := by
  by_cases h : fnd d l < l.length
  · rw [if_pos h]
    have hd := fnd_eq d l h
    cases hx : lk d (its l Fb l.length) with
    | none =>
      refine absurd hd (lk_none.1 hx (pt l (fnd d l), Fb (fnd d l)) ?_)
      simp only [its, List.mem_map, List.mem_range]
      exact ⟨_, h, rfl⟩
    | some x =>
      obtain ⟨h1, h2⟩ := lk_some hx
      obtain ⟨i, hi, rfl⟩ := its_mem h1
      have := (fnd_only hrise hi h).2 h2
      rw [this]
  · rw [if_neg h]
    refine lk_none.2 fun x hx e => ?_
    obtain ⟨i, hi, rfl⟩ := its_mem hx
    have h1 := fnd_le d l
    exact fnd_ne d l i (by omega) e
theorem its_lain {lo hi n : Nat} {w : World} {a : Option Addr} {l : List Prt} {Fb : Nat → Body} (hh : hi ≤ w.heap.size) (hF : ∀ i, i < n → ∃ b off, a = some ⟨b, off, none⟩ ∧ lo ≤ b ∧ b < hi ∧ Cells7 w b (off + i * 7) (pt l i) (Fb i).1 (Fb i).2 ∧ Lain lo hi w (pt l i) (Fb i).1 (Fb i).2 ∧ (pt l i).Wf) :
    ∀ x ∈ its l Fb n, Lain 0 w.heap.size w x.1 x.2.1 x.2.2 ∧ x.1.Wf := fun x hx => by
  obtain ⟨i, hi', rfl⟩ := its_mem hx
  obtain ⟨_, _, _, _, _, _, h1, h2⟩ := hF i hi'
  exact ⟨h1.more (Nat.zero_le _) hh, h2⟩
theorem tdI_mem {d : Int} : ∀ {m : List Item} {x : Item}, x ∈ tdI d m → ∃ y ∈ m, x = (dec1 d y.1, y.2)
  | [], x, h => by simp [tdI] at h
  | y :: m, x, h => by
    simp only [tdI] at h
    split at h
    · rcases List.mem_cons.1 h with rfl | h
      · exact ⟨y, by simp, rfl⟩
      · obtain ⟨z, h1, h2⟩ := tdI_mem h; exact ⟨z, by simp [h1], h2⟩
    · obtain ⟨z, h1, h2⟩ := tdI_mem h; exact ⟨z, by simp [h1], h2⟩
theorem tdI_rising {d : Int} {m : List Item} (h : Rising m) : Rising (tdI d m) := by
  have h1 : (m.map (·.1)).Pairwise (fun P Q => P.d < Q.d) := (List.pairwise_map (f := fun x : Item => x.1) (R := fun P Q : Prt => P.d < Q.d)).2 h
  have h2 := td_rising d h1
  rw [← tdI_fst] at h2
  exact (List.pairwise_map (f := fun x : Item => x.1) (R := fun P Q : Prt => P.d < Q.d)).1 h2

set_option maxHeartbeats 2000000 in
set_option maxRecDepth 100000 in
theorem take_impl (lo hi : Nat) (w : World) (a : Option Addr) (n c : Nat) (l : List Prt) (d : Int) (a0 a1 : Addr) (hr : PRow lo hi w a n l) (hh : hi ≤ w.heap.size) (hm : room l ≤ 1048576) (hd : (Lit.int .i64 d).wf = true) (hg : NoStore a0 w) (hg1 : NoPart a1 w) :
    Calls Tryz.prog 16 #[.slice a n c, .int .i64 d] w (PAns w.heap.size (takeL d l) (takeB d l) w) := by
  have hA : Below w.heap.size w (w.alloc (.cells #[.int .i64 d] 3)) := (Below.refl _ _).alloc (Nat.le_refl _) _
  have hsA := hA.size
  have hcd : ∀ W : World, Below (w.alloc (.cells #[.int .i64 d] 3)).heap.size (w.alloc (.cells #[.int .i64 d] 3)) W → W.cell? ⟨w.heap.size, 0, none⟩ = some (.int .i64 d) := fun W hb => by
    rw [Mem.cell_of_heap (hb.block _ (by rw [size_alloc]; omega)), World.cell?_alloc_at _ _ _ _ rfl]; rfl
  have hmf : ∀ (fn : Fn) (first cap : Array Value) (w : World), (Instr.makeFunc fn first cap).run Tryz.prog w = .ok (.func fn first cap) w := fun _ _ _ _ => rfl
  have hlen := hr.len
  have hrA := hr.below hA
  have hgA := hg.below hA
  obtain ⟨W, hW⟩ : ∃ W, W = w.alloc (.cells #[.int .i64 d] 3) := ⟨_, rfl⟩
  rw [← hW] at hA hsA hcd hrA hgA
  have hK : Calls Tryz.prog 35 #[.slice a n c, .func (.func 53) #[] #[.pointer (some ⟨w.heap.size, 0, none⟩)]] W (PAns W.heap.size (takeL d l) (takeB d l) W) := by
    cases hst : storeB l with
    | false =>
      rw [show takeL d l = l by unfold takeL takeB; rw [hst]; rfl, show takeB d l = false by unfold takeB; rw [hst]; rfl]
      refine copiedT lo hi w.heap.size W a n c l a0 hrA (Nat.le_trans hh hsA) hm ?_
      refine (changed_badT lo hi w.heap.size W a n c l a0 hrA (Nat.le_trans hh hsA) hm hgA hst).mono ?_
      rintro e w1 ⟨rfl, hb⟩
      exact ⟨⟨_, _, _, rfl⟩, hb⟩
    | true =>
      obtain ⟨h30, hok, hrise⟩ := (storeB_iff l).1 hst
      obtain ⟨Fb, hF⟩ := hrA.pick
      have hF' : ∀ i, i < n → ∃ b off, a = some ⟨b, off, none⟩ ∧ lo ≤ b ∧ b < hi ∧ Cells7 W b (off + i * 7) (pt l i) (Fb i).1 (Fb i).2 ∧ (pt l i).Wf := fun i hi' => by
        obtain ⟨b, off, e1, e2, e3, e4, _, e6⟩ := hF i hi'
        exact ⟨b, off, e1, e2, e3, e4, e6⟩
      have hri : Rising (its l Fb n) := by rw [← hlen]; exact its_rising Fb hrise
      have hlk := fnd_lk Fb hrise d
      rw [hlen] at hlk
      by_cases hf : fnd d l < n
      · rw [if_pos hf] at hlk
        have hB : takeB d l = true := by unfold takeB; rw [hst, hlen]; simpa using hf
        rw [show takeL d l = td d l by unfold takeL; rw [if_pos hB], hB]
        have hpd := fnd_eq d l (by omega)
        obtain ⟨P, hP⟩ : ∃ P, pt l (fnd d l) = P := ⟨_, rfl⟩
        have hPok := hok _ (pt_mem (l := l) (i := fnd d l) (by omega))
        rw [hP] at hlk hpd hPok
        obtain ⟨hu1, hu2⟩ := okP_uses hPok
        have hus : ∀ x ∈ its l Fb n, 1 ≤ x.1.u := fun x hx => by
          obtain ⟨i, hi', rfl⟩ := its_mem hx
          exact (okP_uses (hok _ (pt_mem (by omega)))).1
        have htd : (tdI d (its l Fb n)).map (·.1) = td d l := by rw [tdI_fst, ← hlen, its_fst]
        have hY := changed_yesT lo hi w.heap.size W a n c l Fb a0 (tdI d (its l Fb n)) hrA (Nat.le_trans hh hsA) hm hgA hst hF'
          (fun V b hV hb hsh => by
            have := taken_yes b n w.heap.size V (its l Fb n) P (Fb (fnd d l)).1 (Fb (fnd d l)).2 (by rw [hpd]; exact hcd V hV) hsh (by omega) (by rw [hpd]; exact hd) (by rw [hpd]; exact hlk) hri hus hu2
            rw [hpd] at this
            exact this)
          (tdI_rising hri) (by rw [htd]; exact Nat.le_succ_of_le (Nat.le_trans (td_room d l) hm)) (by
            have h1 := congrArg List.length htd
            have h2 := td_len d l
            simp only [List.length_map] at h1
            omega) (fun x hx => by
            obtain ⟨y, hy, rfl⟩ := tdI_mem hx
            obtain ⟨h1, h2⟩ := its_lain (Nat.le_trans hh hsA) hF y hy
            have h3 := hus y hy
            unfold dec1
            split
            · exact ⟨⟨h1.row, h1.le, h1.max⟩, h2.dec h3⟩
            · exact ⟨h1, h2⟩)
        rw [htd, td_store hst] at hY
        refine handedT w.heap.size W a n c (td d l) (hY.mono ?_)
        rintro e w1 ⟨v, G, rfl, hv, hb⟩
        have h1 := congrArg List.length htd
        simp only [List.length_map] at h1
        exact ⟨v, G, rfl, by rw [← h1]; exact hv, hb⟩
      · rw [if_neg hf] at hlk
        have hB : takeB d l = false := by unfold takeB; rw [hst, hlen]; simpa using hf
        rw [show takeL d l = l by unfold takeL; rw [hB]; rfl, hB]
        refine copiedT lo hi w.heap.size W a n c l a1 hrA (Nat.le_trans hh hsA) hm ?_
        refine (changed_noT lo hi w.heap.size W a n c l Fb a0 a1 hrA (Nat.le_trans hh hsA) hm hgA hst hF' (fun V b hV hb hsh => taken_no b n w.heap.size V (its l Fb n) d a1 (hcd V hV) hsh hd hlk ((hg1.below hA).below hV))).mono ?_
        rintro e w1 ⟨rfl, hb⟩
        exact ⟨⟨_, _, _, rfl⟩, hb⟩
  have hL := Lib.hid hlen
  subst hW
  clear hr hrA hgA hcd hg hg1
  obtain ⟨R, hR⟩ : ∃ R, takeL d l = R := ⟨_, rfl⟩
  obtain ⟨b, hb'⟩ : ∃ b, takeB d l = b := ⟨_, rfl⟩
  rw [hR, hb'] at hK ⊢
  clear hR hb'
  go_enter Tryz.func16, Tryz.ntmps16
  go_wp2_with fail
  go_at_call 35
  refine hK.mono ?_
  rintro e w1 ⟨v, G, rfl, hv, hb1⟩
  have hB := hA.trans (hb1.mono hsA)
  have hv2 := hv.down hsA
  obtain ⟨va, vc, rfl⟩ := hv2.slice
  go_wp2
  go_ret2
  exact ⟨_, G, rfl, hv2, hB⟩
end Go.Proofs.YtedjclnojocjkaaGreatDoor.Parts
