/-
  A part put: the program.
  Conditions: the parts lie in memory, in all at most 2^20 numbers; the program's variables hold their sentinels.
-/
import Derived.Test.YtedjclnojocjkaaGreatDoorShelves
import Derived.Test.YtedjclnojocjkaaGreatDoorPutMath
namespace Go.Proofs.YtedjclnojocjkaaGreatDoor.Parts
open Go Go.RowKit Go.Proofs.YtedjclnojocjkaaGreatDoor.Mem Go.Proofs.YtedjclnojocjkaaGreatDoor.Adr Go.Proofs.YtedjclnojocjkaaGreatDoor.Res Go.Proofs.YtedjclnojocjkaaGreatDoor.Errs

set_option maxRecDepth 100000 in
theorem nil_neqP : ∀ w : World, (binOp .neq 68 .nilIface .nilIface).run Tryz.prog w = .ok (.bool false) w := fun _ => rfl
set_option maxRecDepth 100000 in
theorem sent_neqP (a : Addr) : ∀ w : World, (binOp .neq 68 (.iface 166 (.pointer (some a))) .nilIface).run Tryz.prog w = .ok (.bool true) w := fun _ => rfl

set_option maxHeartbeats 2000000 in
set_option maxRecDepth 100000 in
/-- The list is no store. -/
theorem changed_badP (lo hi B : Nat) (w : World) (a : Option Addr) (n c : Nat) (l : List Prt) (a0 : Addr) (hr : PRow lo hi w a n l) (hh : hi ≤ w.heap.size) (hm : room l ≤ 1048576) (hg : NoStore a0 w) (hst : storeB l = false) :
    Calls Tryz.prog 74 #[.slice a n c, (.func (.func 36) #[] #[.pointer (some ⟨B, 0, none⟩)])] w fun e w' => e = .returned (.tuple #[.slice none 0 0, sent a0]) ∧ Below w.heap.size w w' := by
  have hC := check_store lo hi w a n c l a0 hr hh (Nat.le_succ_of_le hm) hg
  rw [hst, show verdict false a0 = sent a0 from rfl] at hC
  have h1 := sent_neqP a0
  unfold sent at hC ⊢
  clear hr
  go_enter Tryz.func74, Tryz.ntmps74
  go_wp2_with fail
  go_at_call 51
  refine hC.mono ?_
  rintro e w1 ⟨rfl, hb⟩
  go_wp2
  go_ret2
  exact ⟨rfl, hb⟩

set_option maxHeartbeats 2000000 in
set_option maxRecDepth 100000 in
/-- The change fails. -/
theorem changed_noP (lo hi B : Nat) (w : World) (a : Option Addr) (n c : Nat) (l : List Prt) (Fb : Nat → Body) (a0 a1 : Addr) (hr : PRow lo hi w a n l) (hh : hi ≤ w.heap.size) (hm : room l ≤ 1048576) (hg : NoStore a0 w) (hst : storeB l = true)
    (hF : ∀ i, i < n → ∃ b off, a = some ⟨b, off, none⟩ ∧ lo ≤ b ∧ b < hi ∧ Cells7 w b (off + i * 7) (pt l i) (Fb i).1 (Fb i).2 ∧ (pt l i).Wf)
    (hch : ∀ (W : World) (b : Nat), Below w.heap.size w W → w.heap.size ≤ b → Shelf b n W (its l Fb n) → Calls Tryz.prog 36 #[.map (some b), .pointer (some ⟨B, 0, none⟩)] W fun e w' => e = .returned (sent a1) ∧ Below W.heap.size W w') :
    Calls Tryz.prog 74 #[.slice a n c, (.func (.func 36) #[] #[.pointer (some ⟨B, 0, none⟩)])] w fun e w' => e = .returned (.tuple #[.slice none 0 0, sent a1]) ∧ Below w.heap.size w w' := by
  have hC := check_store lo hi w a n c l a0 hr hh (Nat.le_succ_of_le hm) hg
  rw [hst, show verdict true a0 = .nilIface from rfl] at hC
  have hlen := hr.len
  obtain ⟨h30, _, hrise⟩ := (storeB_iff l).1 hst
  have h0 := nil_neqP
  have h1 := sent_neqP a1
  have HL := Lib.hid hlen
  unfold sent at hch ⊢
  clear hr hm hg hst hlen
  go_enter Tryz.func74, Tryz.ntmps74
  go_wp2_with fail
  go_at_call 51
  refine hC.mono ?_
  rintro e w1 ⟨rfl, hb1⟩
  have hs1 := hb1.size
  have hO := shelf_of lo hi w1 a n c l Fb HL.out (by have := HL.out; omega) hrise (Nat.le_trans hh hs1) (fun i hi' => by
    obtain ⟨b, off, e1, e2, e3, e4, e5⟩ := hF i hi'
    exact ⟨b, off, e1, e2, e3, e4.keep (hb1.block _ (by omega)), e5⟩)
  clear hC hF hrise
  go_wp2_with fail
  go_at_call 92
  refine hO.mono ?_
  rintro e w2 ⟨rfl, hsh, hb2⟩
  have hB2 := hb1.trans (hb2.mono hs1)
  have hD := hch w2 w1.heap.size hB2 hs1 hsh
  clear hO hch hsh
  go_wp2_with fail
  go_at_call 36
  refine hD.mono ?_
  rintro e w3 ⟨rfl, hb3⟩
  have hB3 := hB2.trans (hb3.mono hB2.size)
  go_wp2
  go_ret2
  exact ⟨rfl, hB3⟩

set_option maxHeartbeats 2000000 in
set_option maxRecDepth 100000 in
/-- The change is made. -/
theorem changed_yesP (lo hi B : Nat) (w : World) (a : Option Addr) (n c : Nat) (l : List Prt) (Fb : Nat → Body) (a0 : Addr) (m : List Item) (hr : PRow lo hi w a n l) (hh : hi ≤ w.heap.size) (hm : room l ≤ 1048576) (hg : NoStore a0 w) (hst : storeB l = true)
    (hF : ∀ i, i < n → ∃ b off, a = some ⟨b, off, none⟩ ∧ lo ≤ b ∧ b < hi ∧ Cells7 w b (off + i * 7) (pt l i) (Fb i).1 (Fb i).2 ∧ (pt l i).Wf)
    (hch : ∀ (W : World) (b : Nat), Below w.heap.size w W → w.heap.size ≤ b → Shelf b n W (its l Fb n) → Calls Tryz.prog 36 #[.map (some b), .pointer (some ⟨B, 0, none⟩)] W fun e w' => e = .returned .nilIface ∧ Shelf b (n + 1) w' m ∧ Below b W w')
    (hri : Rising m) (hmm : room (m.map (·.1)) ≤ 1048577) (hml : m.length ≤ 1000) (hmb : ∀ x ∈ m, Lain 0 w.heap.size w x.1 x.2.1 x.2.2 ∧ x.1.Wf) :
    Calls Tryz.prog 74 #[.slice a n c, (.func (.func 36) #[] #[.pointer (some ⟨B, 0, none⟩)])] w fun e w' => ∃ v G, e = .returned (.tuple #[v, verdict (storeB (m.map (·.1))) a0]) ∧ PBuf 62 w.heap.size w'.heap.size w' v m.length (m.map (·.1)) G ∧ Below w.heap.size w w' := by
  have hC := check_store lo hi w a n c l a0 hr hh (Nat.le_succ_of_le hm) hg
  rw [hst, show verdict true a0 = .nilIface from rfl] at hC
  have hlen := hr.len
  obtain ⟨h30, _, hrise⟩ := (storeB_iff l).1 hst
  have h0 := nil_neqP
  have HL := Lib.hid hlen
  obtain ⟨R, hR⟩ : ∃ R, storeB (m.map (·.1)) = R := ⟨_, rfl⟩
  rw [hR]
  have HR := Lib.hid hR
  clear hr hm hst hlen hR
  go_enter Tryz.func74, Tryz.ntmps74
  go_wp2_with fail
  go_at_call 51
  refine hC.mono ?_
  rintro e w1 ⟨rfl, hb1⟩
  have hs1 := hb1.size
  have hO := shelf_of lo hi w1 a n c l Fb HL.out (by have := HL.out; omega) hrise (Nat.le_trans hh hs1) (fun i hi' => by
    obtain ⟨b, off, e1, e2, e3, e4, e5⟩ := hF i hi'
    exact ⟨b, off, e1, e2, e3, e4.keep (hb1.block _ (by omega)), e5⟩)
  clear hC hF hrise
  go_wp2_with fail
  go_at_call 92
  refine hO.mono ?_
  rintro e w2 ⟨rfl, hsh, hb2⟩
  have hB2 := hb1.trans (hb2.mono hs1)
  have hD := hch w2 w1.heap.size hB2 hs1 hsh
  clear hO hch hsh
  go_wp2_with fail
  go_at_call 36
  refine hD.mono ?_
  rintro e w3 ⟨rfl, hsh3, hb3⟩
  have hB3 := hB2.trans (hb3.mono hs1)
  have hs3 := hB3.size
  have hS := sorted_list 0 w.heap.size w1.heap.size (n + 1) w3 m hsh3 (by have := HL.out; omega) hri hmm hml (fun x hx => ⟨(hmb x hx).1.keep (fun i _ _ h2 => hB3.block i h2), (hmb x hx).2⟩)
  clear hD hsh3 hmb hri
  go_wp2_with fail
  go_at_call 93
  refine hS.mono ?_
  rintro e w4 ⟨v, G, rfl, hv, hb4⟩
  obtain ⟨va, vc, rfl, _, _, hpo⟩ := hv.shape
  have hB4 := hB3.trans (hb4.mono hs3)
  have hs4 := hb4.size
  have hC2 := check_store _ _ w4 va m.length vc (m.map (·.1)) a0 hpo.row (Nat.le_refl _) hmm (hg.below hB4)
  rw [HR.out] at hC2
  clear hS hpo
  go_wp2_with fail
  go_at_call 51
  refine hC2.mono ?_
  rintro e w5 ⟨rfl, hb5⟩
  have hB5 := hB4.trans (hb5.mono hB4.size)
  have hv5 := ((hv.under hb5 (Nat.le_refl _)).down hs3).more hb5.size
  go_wp2
  go_ret2
  exact ⟨_, G, rfl, hv5, hB5⟩

set_option maxHeartbeats 2000000 in
set_option maxRecDepth 100000 in
/-- A copy is handed back. -/
theorem copiedP (lo hi B : Nat) (w : World) (a : Option Addr) (n c : Nat) (l : List Prt) (ax : Addr) (hr : PRow lo hi w a n l) (hh : hi ≤ w.heap.size) (hm : room l ≤ 1048576)
    (hch : Calls Tryz.prog 74 #[.slice a n c, (.func (.func 36) #[] #[.pointer (some ⟨B, 0, none⟩)])] w fun e w' => (∃ A N C, e = .returned (.tuple #[.slice A N C, sent ax])) ∧ Below w.heap.size w w') :
    Calls Tryz.prog 35 #[.slice a n c, (.func (.func 36) #[] #[.pointer (some ⟨B, 0, none⟩)])] w (PAns w.heap.size l false w) := by
  have h1 := sent_neqP ax
  have HL := Lib.hid hr.len
  unfold sent at hch
  go_enter Tryz.func35, Tryz.ntmps35
  go_wp2_with fail
  go_at_call 74
  refine hch.mono ?_
  rintro e w1 ⟨⟨A, N, C, rfl⟩, hb1⟩
  have hs1 := hb1.size
  have hC := copy_parts lo hi w1 a n c l (hr.under hb1 hh) (Nat.le_trans hh hs1) hm
  clear hch hr
  go_wp2_with fail
  go_at_call 75
  refine hC.mono ?_
  rintro e w2 ⟨v, G, rfl, hv, hb2⟩
  go_wp2
  go_ret2
  exact ⟨v, G, rfl, by rw [HL.out]; exact hv.down hs1, hb1.trans (hb2.mono hs1)⟩

set_option maxHeartbeats 2000000 in
set_option maxRecDepth 100000 in
/-- The changed list is handed back. -/
theorem handedP (B : Nat) (w : World) (a : Option Addr) (n c : Nat) (R : List Prt)
    (hch : Calls Tryz.prog 74 #[.slice a n c, (.func (.func 36) #[] #[.pointer (some ⟨B, 0, none⟩)])] w fun e w' => ∃ v G, e = .returned (.tuple #[v, .nilIface]) ∧ PBuf 62 w.heap.size w'.heap.size w' v R.length R G ∧ Below w.heap.size w w') :
    Calls Tryz.prog 35 #[.slice a n c, (.func (.func 36) #[] #[.pointer (some ⟨B, 0, none⟩)])] w (PAns w.heap.size R true w) := by
  have h0 := nil_neqP
  go_enter Tryz.func35, Tryz.ntmps35
  go_wp2_with fail
  go_at_call 74
  refine hch.mono ?_
  rintro e w1 ⟨v, G, rfl, hv, hb1⟩
  obtain ⟨va, vc, rfl⟩ := hv.slice
  clear hch
  go_wp2
  go_ret2
  exact ⟨_, G, rfl, hv, hb1⟩
theorem its_lain {lo hi n : Nat} {w : World} {a : Option Addr} {l : List Prt} {Fb : Nat → Body} (hh : hi ≤ w.heap.size) (hF : ∀ i, i < n → ∃ b off, a = some ⟨b, off, none⟩ ∧ lo ≤ b ∧ b < hi ∧ Cells7 w b (off + i * 7) (pt l i) (Fb i).1 (Fb i).2 ∧ Lain lo hi w (pt l i) (Fb i).1 (Fb i).2 ∧ (pt l i).Wf) :
    ∀ x ∈ its l Fb n, Lain 0 w.heap.size w x.1 x.2.1 x.2.2 ∧ x.1.Wf := fun x hx => by
  obtain ⟨i, hi', rfl⟩ := its_mem hx
  obtain ⟨_, _, _, _, _, _, h1, h2⟩ := hF i hi'
  exact ⟨h1.more (Nat.zero_le _) hh, h2⟩

set_option maxHeartbeats 2000000 in
set_option maxRecDepth 100000 in
theorem put_any (lo hi b nn : Nat) (w : World) (m : List Item) (X : Prt) (A : Option Addr) (c : Nat) (a1 : Addr) (hs : Shelf b nn w m) (hn : nn ≤ 999) (hr : Rising m) (hu : ∀ x ∈ m, 1 ≤ x.1.u ∧ x.1.u ≤ 1000) (row : Row .i64 lo hi w A X.zs.length X.zs) (hz : X.zs.length ≤ 1048576) (hw : X.Wf) (hX : X.d = digP X) (hX1 : X.u = 1) (hg : NoPart a1 w) :
    Calls Tryz.prog 37 #[.map (some b), (Value.agg #[Value.int IntKind.i64 (X.k), Value.slice (A) (X.zs.length) (c), Value.int IntKind.i64 (X.h), Value.int IntKind.i64 (X.p), Value.int IntKind.i64 (X.q)])] w fun e w' => e = .returned .nilIface ∧ Shelf b (nn + 1) w' (pdI (X, A, c) m) ∧ Below b w w' := by
  obtain ⟨wd, wk, wh, wp, wq, _⟩ := hw
  have hbl := hs.lt
  have hA0 : Below w.heap.size w (w.alloc (.cells #[.int .i64 X.k, .slice A X.zs.length c, .int .i64 X.h, .int .i64 X.p, .int .i64 X.q] 29)) := (Below.refl _ _).alloc (Nat.le_refl _) _
  have hsA0 := hA0.size
  have Qr := Quint.new 29 (.int .i64 X.k) (.slice A X.zs.length c) (.int .i64 X.h) (.int .i64 X.p) (.int .i64 X.q) w
  have hD := digest_impl lo hi X.k X.h X.p X.q _ A X.zs.length c X.zs (row.below hA0) (by omega) wk wh wp wq
  rw [show dig X.k X.h X.p X.q X.zs.length X.zs = X.d from hX.symm] at hD
  have hlk := lk_pdI (x := (X, A, c)) hr
  simp only at hlk
  obtain ⟨q0, q1, q2, q3, q4⟩ := Qr.cells
  clear row hX
  go_enter Tryz.func37, Tryz.ntmps37
  go_wp2_with fail
  go_at_call 9
  refine hD.mono ?_
  rintro e w1 ⟨rfl, hb1⟩
  have hB1 := hA0.trans (hb1.mono hsA0)
  have hs1 := hs.below hB1
  have hg1 := hg.below hB1
  have Qr1 := Qr.below hb1
  have hsz1 := hB1.size
  clear q0 q1 q2 q3 q4 hD Qr
  cases hx : lk X.d m with
  | some y =>
    obtain ⟨P, A', c'⟩ := y
    obtain ⟨hmem, hPd⟩ := lk_some hx
    obtain ⟨hu1, hu2⟩ := hu _ hmem
    simp only at hPd hu1 hu2
    have hF := find_yes b nn w1 m X.d (P, A', c') hs1 wd hx
    simp only [pv] at hF
    rw [hx] at hlk
    simp only at hlk
    have hw1 : IntKind.wrap .i64 (P.u + 1) = P.u + 1 := by rw [IntKind.wrap_i64]; omega
    have HP := Lib.hid hPd
    clear hr hu hx hmem hPd
    go_wp2_with fail
    go_at_call 76
    refine hF.mono ?_
    rintro e w2 ⟨rfl, hb2⟩
    have hB2 := hB1.trans (hb2.mono hsz1)
    have hs2 := hs1.below hb2
    have hsz2 := hB2.size
    have hA : Below w2.heap.size w2 (w2.alloc (.cells #[.int .i64 P.d, .int .i64 P.k, .slice A' P.zs.length c', .int .i64 P.h, .int .i64 P.p, .int .i64 P.q, .int .i64 P.u] 62)) := (Below.refl _ _).alloc (Nat.le_refl _) _
    have hB : Below w2.heap.size w2 (w2.alloc (.cells #[.int .i64 P.d, .int .i64 P.k, .slice A' P.zs.length c', .int .i64 P.h, .int .i64 P.p, .int .i64 P.q, .int .i64 (P.u + 1)] 62)) := (Below.refl _ _).alloc (Nat.le_refl _) _
    have hgc : (w2.alloc (.cells #[.int .i64 P.d, .int .i64 P.k, .slice A' P.zs.length c', .int .i64 P.h, .int .i64 P.p, .int .i64 P.q, .int .i64 P.u] 62)).cell? ⟨1, 0, none⟩ = some (.iface 166 (.pointer (some a1))) := (hg1.below hb2).below hA
    have Q := Sept.new 62 (.int .i64 P.d) (.int .i64 P.k) (.slice A' P.zs.length c') (.int .i64 P.h) (.int .i64 P.p) (.int .i64 P.q) (.int .i64 P.u) w2
    have Q2 := Sept.new 62 (.int .i64 P.d) (.int .i64 P.k) (.slice A' P.zs.length c') (.int .i64 P.h) (.int .i64 P.p) (.int .i64 P.q) (.int .i64 (P.u + 1)) w2
    obtain ⟨w5, hrun0, hs5, hb5, _, _⟩ := (hs2.below hB).put (x := (inc P, A', c')) (m' := pdI (X, A, c) m) (by omega) (by show (Lit.int .i64 P.d).wf = true; rw [HP.out]; exact wd) (fun k => by
      rw [hlk k]
      by_cases h : k = X.d
      · rw [if_pos h, if_pos (show k = ((inc P, A', c') : Item).1.d by show k = P.d; rw [HP.out]; exact h)]
      · rw [if_neg h, if_neg (show ¬ k = ((inc P, A', c') : Item).1.d by show ¬ k = P.d; rw [HP.out]; exact h)])
    have hrun : (Instr.mapUpdate 66 (.map (some b)) (.int .i64 X.d) (pv (inc P, A', c'))).run Tryz.prog (w2.alloc (.cells #[.int .i64 P.d, .int .i64 P.k, .slice A' P.zs.length c', .int .i64 P.h, .int .i64 P.p, .int .i64 P.q, .int .i64 (P.u + 1)] 62)) = .ok () w5 := by
      have e : (inc P, A', c').1.d = X.d := HP.out
      rw [e] at hrun0
      exact hrun0
    simp only [pv, inc] at hrun
    have hI := is_nil a1
    unfold sent at hI
    have hB5 : Below b w w5 := ((hB2.mono (Nat.le_of_lt hbl)).trans (hB.mono (by omega))).trans hb5
    obtain ⟨x0, x1, x2, x3, x4, x5, x6⟩ := Q.cells
    obtain ⟨f0, f1, f2, f3, f4, f5, f6⟩ := Q.frozen
    obtain ⟨y0, y1, y2, y3, y4, y5, y6⟩ := Q2.cells
    clear hF hrun0
    go_wp2_with fail
    go_at_call 50
    refine (hI _).mono ?_
    rintro e w3 ⟨rfl, rfl⟩
    go_wp2
    go_ret
    exact ⟨rfl, hs5, hB5⟩
  | none =>
    have hF := find_no b nn w1 m X.d a1 hs1 wd hx hg1
    rw [hx] at hlk
    simp only at hlk
    clear hr hu hx
    unfold sent at hF
    go_wp2_with fail
    go_at_call 76
    refine hF.mono ?_
    rintro e w2 ⟨_, rfl, ⟨d', k', A', n', c', h', p', q', u', rfl⟩, hb2⟩
    have hB2 := hB1.trans (hb2.mono hsz1)
    have hs2 := hs1.below hb2
    have hsz2 := hB2.size
    have hA : Below w2.heap.size w2 (w2.alloc (.cells #[.int .i64 d', .int .i64 k', .slice A' n' c', .int .i64 h', .int .i64 p', .int .i64 q', .int .i64 u'] 62)) := (Below.refl _ _).alloc (Nat.le_refl _) _
    have hB : Below w2.heap.size w2 (w2.alloc (.cells #[.int .i64 X.d, .int .i64 X.k, .slice A X.zs.length c, .int .i64 X.h, .int .i64 X.p, .int .i64 X.q, .int .i64 1] 62)) := (Below.refl _ _).alloc (Nat.le_refl _) _
    have hgc : (w2.alloc (.cells #[.int .i64 d', .int .i64 k', .slice A' n' c', .int .i64 h', .int .i64 p', .int .i64 q', .int .i64 u'] 62)).cell? ⟨1, 0, none⟩ = some (.iface 166 (.pointer (some a1))) := (hg1.below hb2).below hA
    have Qr2 := (Qr1.below hb2).below hA
    have Q := Sept.new 62 (.int .i64 d') (.int .i64 k') (.slice A' n' c') (.int .i64 h') (.int .i64 p') (.int .i64 q') (.int .i64 u') w2
    have Q0 := Sept.new 62 (.int .i64 X.d) (.int .i64 X.k) (.slice A X.zs.length c) (.int .i64 X.h) (.int .i64 X.p) (.int .i64 X.q) (.int .i64 0) w2
    have Q2 := Sept.new 62 (.int .i64 X.d) (.int .i64 X.k) (.slice A X.zs.length c) (.int .i64 X.h) (.int .i64 X.p) (.int .i64 X.q) (.int .i64 1) w2
    obtain ⟨w5, hrun, hs5, hb5, _, _⟩ := (hs2.below hB).put (x := (X, A, c)) (m' := pdI (X, A, c) m) (by omega) wd hlk
    simp only [pv] at hrun
    rw [hX1] at hrun
    have hI := is_same a1
    unfold sent at hI
    have hB5 : Below b w w5 := ((hB2.mono (Nat.le_of_lt hbl)).trans (hB.mono (by omega))).trans hb5
    obtain ⟨r0, r1, r2, r3, r4⟩ := Qr2.cells
    obtain ⟨x0, x1, x2, x3, x4, x5, x6⟩ := Q.cells
    obtain ⟨f0, f1, f2, f3, f4, f5, f6⟩ := Q.frozen
    obtain ⟨z0, z1, z2, z3, z4, z5, z6⟩ := Q0.cells
    obtain ⟨g0, g1, g2, g3, g4, g5, g6⟩ := Q0.frozen
    obtain ⟨y0, y1, y2, y3, y4, y5, y6⟩ := Q2.cells
    clear hF hX1
    go_wp2_with fail
    go_at_call 50
    refine (hI _).mono ?_
    rintro e w3 ⟨rfl, rfl⟩
    go_wp2
    go_ret
    exact ⟨rfl, hs5, hB5⟩

set_option maxHeartbeats 1000000 in
set_option maxRecDepth 100000 in
theorem putted (lo hi b nn B : Nat) (w : World) (m : List Item) (X : Prt) (A : Option Addr) (c : Nat) (a1 : Addr) (Qr : Quint 29 B (.int .i64 X.k) (.slice A X.zs.length c) (.int .i64 X.h) (.int .i64 X.p) (.int .i64 X.q) w) (hs : Shelf b nn w m) (hn : nn ≤ 999) (hr : Rising m) (hu : ∀ x ∈ m, 1 ≤ x.1.u ∧ x.1.u ≤ 1000) (row : Row .i64 lo hi w A X.zs.length X.zs) (hz : X.zs.length ≤ 1048576) (hw : X.Wf) (hX : X.d = digP X) (hX1 : X.u = 1) (hg : NoPart a1 w) :
    Calls Tryz.prog 36 #[.map (some b), .pointer (some ⟨B, 0, none⟩)] w fun e w' => e = .returned .nilIface ∧ Shelf b (nn + 1) w' (pdI (X, A, c) m) ∧ Below b w w' := by
  have hT := put_any lo hi b nn w m X A c a1 hs hn hr hu row hz hw hX hX1 hg
  obtain ⟨q0, q1, q2, q3, q4⟩ := Qr.cells
  clear hs hr hu row hX hX1
  go_enter Tryz.func36, Tryz.ntmps36
  go_wp2_with fail
  go_at_call 37
  refine hT.mono ?_
  rintro e w1 ⟨rfl, h1, h2⟩
  go_wp2
  go_ret
  exact ⟨rfl, h1, h2⟩

set_option maxHeartbeats 2000000 in
set_option maxRecDepth 100000 in
theorem put_impl (lo hi lo2 hi2 : Nat) (w : World) (a : Option Addr) (n c : Nat) (l : List Prt) (X : Prt) (A : Option Addr) (cr : Nat) (a0 a1 : Addr) (hr : PRow lo hi w a n l) (hh : hi ≤ w.heap.size) (hm : room l ≤ 1048576) (row : Row .i64 lo2 hi2 w A X.zs.length X.zs) (hh2 : hi2 ≤ w.heap.size) (hle : X.zs.length ≤ cr) (hmx : cr ≤ maxLen) (hm2 : room l + (1 + X.zs.length) ≤ 1048577) (hw : X.Wf) (hX : X.d = digP X) (hX1 : X.u = 1) (hg : NoStore a0 w) (hg1 : NoPart a1 w) :
    Calls Tryz.prog 7 #[.slice a n c, (Value.agg #[Value.int IntKind.i64 (X.k), Value.slice (A) (X.zs.length) (cr), Value.int IntKind.i64 (X.h), Value.int IntKind.i64 (X.p), Value.int IntKind.i64 (X.q)])] w (PAns w.heap.size (putL X l) (putB X l) w) := by
  have hA : Below w.heap.size w (w.alloc (.cells #[.int .i64 X.k, .slice A X.zs.length cr, .int .i64 X.h, .int .i64 X.p, .int .i64 X.q] 29)) := (Below.refl _ _).alloc (Nat.le_refl _) _
  have hsA := hA.size
  have Qr := Quint.new 29 (.int .i64 X.k) (.slice A X.zs.length cr) (.int .i64 X.h) (.int .i64 X.p) (.int .i64 X.q) w
  have hmf : ∀ (fn : Fn) (first cap : Array Value) (w : World), (Instr.makeFunc fn first cap).run Tryz.prog w = .ok (.func fn first cap) w := fun _ _ _ _ => rfl
  have hlen := hr.len
  have hrA := hr.below hA
  have hgA := hg.below hA
  have rowA := row.below hA
  obtain ⟨W, hW⟩ : ∃ W, W = w.alloc (.cells #[.int .i64 X.k, .slice A X.zs.length cr, .int .i64 X.h, .int .i64 X.p, .int .i64 X.q] 29) := ⟨_, rfl⟩
  rw [← hW] at hA hsA hrA hgA rowA Qr
  have hK : Calls Tryz.prog 35 #[.slice a n c, .func (.func 36) #[] #[.pointer (some ⟨w.heap.size, 0, none⟩)]] W (PAns W.heap.size (putL X l) (putB X l) W) := by
    cases hst : storeB l with
    | false =>
      rw [show putL X l = l by unfold putL putB; rw [hst]; rfl, show putB X l = false by unfold putB; rw [hst]; rfl]
      refine copiedP lo hi w.heap.size W a n c l a0 hrA (Nat.le_trans hh hsA) hm ?_
      refine (changed_badP lo hi w.heap.size W a n c l a0 hrA (Nat.le_trans hh hsA) hm hgA hst).mono ?_
      rintro e w1 ⟨rfl, hb⟩
      exact ⟨⟨_, _, _, rfl⟩, hb⟩
    | true =>
      obtain ⟨h30, hok, hrise⟩ := (storeB_iff l).1 hst
      obtain ⟨Fb, hF⟩ := hrA.pick
      have hF' : ∀ i, i < n → ∃ b off, a = some ⟨b, off, none⟩ ∧ lo ≤ b ∧ b < hi ∧ Cells7 W b (off + i * 7) (pt l i) (Fb i).1 (Fb i).2 ∧ (pt l i).Wf := fun i hi' => by
        obtain ⟨b, off, e1, e2, e3, e4, _, e6⟩ := hF i hi'
        exact ⟨b, off, e1, e2, e3, e4, e6⟩
      have hri : Rising (its l Fb n) := by rw [← hlen]; exact its_rising Fb hrise
      have hus : ∀ x ∈ its l Fb n, 1 ≤ x.1.u ∧ x.1.u ≤ 1000 := fun x hx => by
        obtain ⟨i, hi', rfl⟩ := its_mem hx
        exact okP_uses (hok _ (pt_mem (by omega)))
      have htd : (pdI (X, A, cr) (its l Fb n)).map (·.1) = pd X l := by rw [pdI_fst, ← hlen, its_fst]
      have hpl := congrArg List.length htd
      simp only [List.length_map] at hpl
      have hY := changed_yesP lo hi w.heap.size W a n c l Fb a0 (pdI (X, A, cr) (its l Fb n)) hrA (Nat.le_trans hh hsA) hm hgA hst hF'
        (fun V b hV hb hsh => putted lo2 hi2 b n w.heap.size V (its l Fb n) X A cr a1 (Qr.below hV) hsh (by omega) hri hus (rowA.below hV) (by omega) hw hX hX1 ((hg1.below hA).below hV))
        (pdI_rising hri) (by rw [htd]; exact Nat.le_trans (pd_room X l) hm2) (by
          have h2 := pd_len X l
          omega) (fun x hx => by
          rcases pdI_mem hx with rfl | ⟨y, hy, rfl | rfl⟩
          · exact ⟨⟨rowA.more (Nat.zero_le _) (Nat.le_trans hh2 hsA), hle, hmx⟩, hw⟩
          · exact its_lain (Nat.le_trans hh hsA) hF _ hy
          · obtain ⟨h1, h2⟩ := its_lain (Nat.le_trans hh hsA) hF y hy
            exact ⟨⟨h1.row, h1.le, h1.max⟩, h2.inc (hus y hy).2⟩)
      rw [htd] at hY
      cases hst2 : storeB (pd X l) with
      | true =>
        have hB : putB X l = true := by unfold putB; rw [hst, hst2]; rfl
        rw [show putL X l = pd X l by unfold putL; rw [if_pos hB], hB]
        rw [hst2] at hY
        refine handedP w.heap.size W a n c (pd X l) (hY.mono ?_)
        rintro e w1 ⟨v, G, rfl, hv, hb⟩
        exact ⟨v, G, rfl, by rw [← hpl]; exact hv, hb⟩
      | false =>
        have hB : putB X l = false := by unfold putB; rw [hst, hst2]; rfl
        rw [show putL X l = l by unfold putL; rw [hB]; rfl, hB]
        rw [hst2] at hY
        refine copiedP lo hi w.heap.size W a n c l a0 hrA (Nat.le_trans hh hsA) hm (hY.mono ?_)
        rintro e w1 ⟨v, G, rfl, hv, hb⟩
        obtain ⟨va, vc, rfl⟩ := hv.slice
        exact ⟨⟨_, _, _, rfl⟩, hb⟩
  subst hW
  clear hr hrA hgA hg hg1 row rowA Qr hX hX1
  obtain ⟨R, hR⟩ : ∃ R, putL X l = R := ⟨_, rfl⟩
  obtain ⟨b, hb'⟩ : ∃ b, putB X l = b := ⟨_, rfl⟩
  rw [hR, hb'] at hK ⊢
  clear hR hb'
  go_enter Tryz.func7, Tryz.ntmps7
  go_wp2_with fail
  go_at_call 35
  refine hK.mono ?_
  rintro e w1 ⟨v, G, rfl, hv, hb1⟩
  have hB := hA.trans (hb1.mono hsA)
  have hv2 := hv.down hsA
  obtain ⟨va, vc, rfl⟩ := hv2.slice
  go_wp2
  go_ret2
  exact ⟨_, G, rfl, hv2, hB⟩
end Go.Proofs.YtedjclnojocjkaaGreatDoor.Parts
