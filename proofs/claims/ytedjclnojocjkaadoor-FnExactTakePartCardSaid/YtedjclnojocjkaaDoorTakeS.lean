/-
  A part taken once: the model.
  Conditions: the parts lie in memory, in all at most 2^20 numbers.
-/
import Derived.Test.YtedjclnojocjkaaDoorCopyS
import Derived.Test.YtedjclnojocjkaaDoorStore
import Derived.Test.YtedjclnojocjkaaDoorFind
import Derived.Test.YtedjclnojocjkaaDoorShelfMath
import Derived.Deep.CutBlock
import Derived.Deep.DeepCutAuto
namespace Go.Proofs.YtedjclnojocjkaaDoor.Parts
open Go Go.RowKit Go.Proofs.YtedjclnojocjkaaDoor.Mem Go.Proofs.YtedjclnojocjkaaDoor.Adr Go.Proofs.YtedjclnojocjkaaDoor.Res

/-- A list of parts of its own and a word. -/
def PAns (lo : Nat) (l : List Prt) (b : Bool) (w : World) (e : Ending) (w' : World) : Prop :=
  ∃ v G, e = .returned (.tuple #[v, .bool b]) ∧ PBuf 46 lo w'.heap.size w' v l.length l G ∧ Below lo w w'
def takeB (d : Int) (l : List Prt) : Bool := storeB l && decide (fnd d l < l.length)
def takeL (d : Int) (l : List Prt) : List Prt := if takeB d l = true then td d l else l

/-- What a store is. -/
theorem storeB_iff (l : List Prt) : storeB l = true ↔ l.length ≤ 30 ∧ (∀ P ∈ l, okP P = true) ∧ l.Pairwise (fun P Q => P.d < Q.d) := by
  have hlen : storeB l = true → l.length ≤ 30 := fun h => by
    rcases Nat.lt_or_ge 30 l.length with h1 | h1
    · rw [storeB_long h1] at h; cases h
    · exact h1
  have hat : storeB l = true → ∀ i, i < l.length → okAt l i = true := fun h i hi => by
    cases hk : okAt l i with
    | true => rfl
    | false => rw [storeB_no hi hk] at h; cases h
  have hptm : ∀ i (hi : i < l.length), pt l i = l[i] := fun i hi => by simp [pt, List.getD_eq_getElem?_getD, hi]
  constructor
  · intro h
    have h1 := hat h
    refine ⟨hlen h, fun P hP => ?_, ?_⟩
    · obtain ⟨i, hi, rfl⟩ := List.mem_iff_getElem.1 hP
      have := h1 i hi
      simp only [okAt, Bool.and_eq_true] at this
      rw [← hptm i hi]; exact this.1
    · have step : ∀ i, i + 1 < l.length → (pt l i).d < (pt l (i + 1)).d := fun i hi => by
        have := h1 (i + 1) hi
        simp only [okAt, Bool.and_eq_true, Bool.or_eq_true, decide_eq_true_eq] at this
        rcases this.2 with h2 | h2
        · omega
        · simpa using h2
      have far : ∀ k i, i + (k + 1) < l.length → (pt l i).d < (pt l (i + (k + 1))).d := by
        intro k
        induction k with
        | zero => intro i hi; exact step i hi
        | succ k ih =>
          intro i hi
          have a1 := ih i (by omega)
          have a2 := step (i + (k + 1)) (by omega)
          rw [show i + (k + 1 + 1) = i + (k + 1) + 1 by omega]
          omega
      rw [List.pairwise_iff_getElem]
      intro i j hi hj hij
      rw [← hptm i hi, ← hptm j hj]
      have := far (j - i - 1) i (by omega)
      rwa [show i + (j - i - 1 + 1) = j by omega] at this
  · rintro ⟨h1, h2, h3⟩
    have hf : Fine l l.length := fun i hi => by
      unfold okAt
      rw [Bool.and_eq_true]
      refine ⟨h2 _ (pt_mem hi), ?_⟩
      rw [Bool.or_eq_true, decide_eq_true_eq, decide_eq_true_eq]
      by_cases h0 : i = 0
      · exact .inl h0
      · right
        rw [hptm i hi, hptm (i - 1) (by omega)]
        exact (List.pairwise_iff_getElem.1 h3) (i - 1) i (by omega) hi (by omega)
    rw [storeB_yes hf]
    simpa using h1
theorem okP_uses {P : Prt} (h : okP P = true) : 1 ≤ P.u ∧ P.u ≤ 1000 := by
  simp only [okP, Bool.and_eq_true, decide_eq_true_eq] at h
  exact h.2.2
theorem okP_dec {P : Prt} (h : okP P = true) (hu : 0 < P.u - 1) : okP (dec P) = true := by
  have h1 := okP_uses h
  simp only [okP, Bool.and_eq_true, decide_eq_true_eq] at h ⊢
  refine ⟨h.1, h.2.1, ?_⟩
  show 1 ≤ P.u - 1 ∧ P.u - 1 ≤ 1000
  omega
/-- What is left of a store is a store. -/
theorem td_store {d : Int} {l : List Prt} (h : storeB l = true) : storeB (td d l) = true := by
  obtain ⟨h1, h2, h3⟩ := (storeB_iff l).1 h
  refine (storeB_iff _).2 ⟨Nat.le_trans (td_len d l) h1, fun P hP => ?_, td_rising d h3⟩
  obtain ⟨Q, hQ, rfl, hu⟩ := td_mem hP
  unfold dec1 at hu ⊢
  split
  · rename_i he
    rw [if_pos he] at hu
    exact okP_dec (h2 Q hQ) hu
  · exact h2 Q hQ
theorem td_room (d : Int) : ∀ l, room (td d l) ≤ room l
  | [] => Nat.le_refl _
  | P :: l => by
    have := td_room d l
    have e : (dec1 d P).zs.length = P.zs.length := by unfold dec1; split <;> rfl
    simp only [td]
    split <;> simp only [room] <;> omega
theorem Prt.Wf.dec {P : Prt} (h : P.Wf) (hu : 1 ≤ P.u) : (dec P).Wf := by
  obtain ⟨h0, h1, h2, h3, h4, h5⟩ := h
  refine ⟨h0, h1, h2, h3, h4, ?_⟩
  have := bounds_i64 h5
  exact WalkArith.wf_i64 (by show -9223372036854775808 ≤ P.u - 1 ∧ P.u - 1 ≤ 9223372036854775807; omega)
theorem td_drop {d : Int} {l : List Prt} {j : Nat} (h : j < l.length) : td d (l.drop j) = (if 0 < (dec1 d (pt l j)).u then [dec1 d (pt l j)] else []) ++ td d (l.drop (j + 1)) := by
  rw [List.drop_eq_getElem_cons h]
  have e : l[j] = pt l j := by simp [pt, List.getD_eq_getElem?_getD, h]
  rw [e]
  simp only [td]
  split <;> rfl
theorem fnd_only {d : Int} {l : List Prt} (h : l.Pairwise (fun P Q => P.d < Q.d)) {j : Nat} (hj : j < l.length) (hf : fnd d l < l.length) : (j = fnd d l) ↔ (pt l j).d = d := by
  constructor
  · rintro rfl; exact fnd_eq d l hf
  · intro he
    have h1 := fnd_eq d l hf
    have hptm : ∀ i (hi : i < l.length), pt l i = l[i] := fun i hi => by simp [pt, List.getD_eq_getElem?_getD, hi]
    rcases Nat.lt_trichotomy j (fnd d l) with h2 | h2 | h2
    · exact absurd he (fnd_ne d l j h2)
    · exact h2
    · have := (List.pairwise_iff_getElem.1 h) (fnd d l) j hf hj h2
      rw [← hptm _ hf, ← hptm _ hj] at this
      omega

set_option maxHeartbeats 4000000 in
set_option maxRecDepth 100000 in
theorem take_spec (lo hi : Nat) (w : World) (a : Option Addr) (n c : Nat) (l : List Prt) (d : Int) (hr : PRow lo hi w a n l) (hh : hi ≤ w.heap.size) (hm : room l ≤ 1048576) :
    Calls Tryd.prog 10 #[.slice a n c, .int .i64 d] w (PAns w.heap.size (takeL d l) (takeB d l) w) := by
  have hq := room_eq l
  have hlen := hr.len
  have hn : n ≤ 1048576 := by omega
  have hF := fun W r => find_spec lo hi W a n c l r d (by omega)
  have hS := fun W r h => store_spec lo hi W a n c l r h hm
  have hC := fun W r h => copy_spec lo hi W a n c l r h hm
  have HL := Lib.hid hlen
  by_cases hb : takeB d l = true
  rotate_left
  · rw [show takeL d l = l by unfold takeL; rw [if_neg hb], show takeB d l = false by simpa using hb]
    have hbad : storeB l = false ∨ (storeB l = true ∧ found d l = -1) := by
      cases hs : storeB l with
      | false => exact .inl rfl
      | true => right; refine ⟨rfl, ?_⟩; unfold found; rw [if_neg]; intro h; exact hb (by simp [takeB, hs, h])
    obtain ⟨R, hR⟩ : ∃ R, storeB l = R := ⟨_, rfl⟩
    obtain ⟨K, hK⟩ : ∃ K, found d l = K := ⟨_, rfl⟩
    rw [hR] at hS hbad
    rw [hK] at hF hbad
    have hK1 : decide (K < 0) = true ∨ R = false := by rcases hbad with h | ⟨_, h⟩; exact .inr h; left; simp; omega
    clear hR hK hbad hb hlen hm hq
    rcases Bool.eq_false_or_eq_true R with rfl | rfl
    · have hK2 : decide (K < 0) = true := by rcases hK1 with h | h; exact h; cases h
      clear hK1
      go_enter Tryd.func10, Tryd.ntmps10
      go_wp2_with fail
      go_at_call 22
      refine (hF _ hr).mono ?_
      rintro e w1 ⟨rfl, rfl⟩
      go_wp2_with fail
      go_at_call 6
      refine (hS _ hr hh).mono ?_
      rintro e w2 ⟨rfl, hb2⟩
      have r2 := hr.under hb2 hh
      have hs2 := hb2.size
      go_wp2_with fail
      go_at_call 23
      refine (hC _ r2 (Nat.le_trans hh hs2)).mono ?_
      rintro e w3 ⟨v, G, rfl, hv, hb3⟩
      go_wp2
      go_ret2
      exact ⟨v, G, rfl, by rw [HL.out]; exact hv.down hs2, hb2.trans (hb3.mono hs2)⟩
    · clear hK1
      go_enter Tryd.func10, Tryd.ntmps10
      go_wp2_with fail
      go_at_call 22
      refine (hF _ hr).mono ?_
      rintro e w1 ⟨rfl, rfl⟩
      go_wp2_with fail
      go_at_call 6
      refine (hS _ hr hh).mono ?_
      rintro e w2 ⟨rfl, hb2⟩
      have r2 := hr.under hb2 hh
      have hs2 := hb2.size
      go_wp2_with fail
      go_at_call 23
      refine (hC _ r2 (Nat.le_trans hh hs2)).mono ?_
      rintro e w3 ⟨v, G, rfl, hv, hb3⟩
      go_wp2
      go_ret2
      exact ⟨v, G, rfl, by rw [HL.out]; exact hv.down hs2, hb2.trans (hb3.mono hs2)⟩
  rw [show takeL d l = td d l by unfold takeL; rw [if_pos hb], hb]
  simp only [takeB, Bool.and_eq_true, decide_eq_true_eq] at hb
  obtain ⟨hst, hfd⟩ := hb
  obtain ⟨_, hok, hrise⟩ := (storeB_iff l).1 hst
  rw [hst] at hS
  have HK := Lib.hid (fun j hj => fnd_only (d := d) hrise (j := j) hj hfd)
  obtain ⟨K, hK⟩ : ∃ K : Nat, fnd d l = K := ⟨_, rfl⟩
  rw [show found d l = (K : Int) by unfold found; rw [if_pos hfd, hK]] at hF
  rw [hK] at HK hfd
  have hKn : K < n := by omega
  have hz : ∀ i, i < n → (pt l i).zs.length ≤ 1048576 ∧ okP (pt l i) = true := fun i hi => by
    have h3 := bodies_take l i (by omega)
    have h4 := bodies_le l (i + 1)
    exact ⟨by omega, hok _ (pt_mem (by omega))⟩
  clear hst hok hrise hK hfd hC hlen hm hq
  have hd0 : decide ((K : Int) < 0) = false := by simp
  go_enter Tryd.func10, Tryd.ntmps10
  go_wp2_with fail
  go_at_call 22
  refine (hF _ hr).mono ?_
  rintro e w1 ⟨rfl, rfl⟩
  go_wp2_with fail
  go_at_call 6
  refine (hS _ hr hh).mono ?_
  rintro e w2 ⟨rfl, hb2⟩
  have hs2 := hb2.size
  have h0 := (PBuf.made 46 w2.heap.size w2 (Nat.le_refl _)).down hs2
  have hb0 : Below w1.heap.size w1 (w2.alloc (.cells #[] 46)) := hb2.alloc hs2 _
  have hs0 : (w2.alloc (.cells #[] 46)).heap.size = w2.heap.size + 1 := size_alloc _ _
  rw [← hs0] at h0
  clear hF hS
  go_wp2
  go_loopw [7, 8] (fun v i wr => ∃ (j : Nat) (o : List Prt) (G : List Body), j ≤ n ∧ i = .int .i64 j ∧ o.length ≤ j ∧ PBuf 46 w1.heap.size wr.heap.size wr v o.length o G ∧ Hid (o ++ td d (l.drop j) = td d l) ∧ Below w1.heap.size w1 wr) (fun _ i _ => n - (Go.RowKit.intOf i).toNat)
  case atStart => exact ⟨0, [], [], Nat.zero_le _, rfl, Nat.le_refl _, by simpa using h0, by simp [Hid], hb0⟩
  case round =>
    obtain ⟨j, o, G, hj, rfl, hoj, hv, HO, hbr⟩ := hrel
    clear h0 hb0 hs0 hb2 hs2
    by_cases hlt : j < n
    · obtain ⟨b, off, A, cc, rfl, _, hbhi, q, hla, wP⟩ := (hr.under hbr hh).at hlt
      obtain ⟨hzj, hokj⟩ := hz j hlt
      have HD := Lib.hid (td_drop (d := d) (l := l) (j := j) (by have := HL.out; omega))
      have hjK := HK.out j (by have := HL.out; omega)
      obtain ⟨P, hP⟩ : ∃ P, pt l j = P := ⟨_, rfl⟩
      rw [hP] at q hla wP hzj hokj HD hjK
      obtain ⟨hu1, hu2⟩ := okP_uses hokj
      have hbs := hbr.size
      have hC := fun W r => Draw.copy5 lo hi P.k P.h P.p P.q W A P.zs.length cc P.zs r hzj
      obtain ⟨va, vc, rfl⟩ := hv.slice
      have rd : Row .i64 lo hi wr.drew A P.zs.length P.zs := hla.row.drewN 1
      have u : Cells7 wr.drew b (off + j * 7) P A cc := q.keep rfl
      have bB := hbr.drew
      have hvd := hv.keep (w' := wr.drew) (fun _ _ _ _ => rfl)
      have hbb : b < w1.heap.size := by omega
      have g := u.all
      obtain ⟨x0, x1, x2, x3, x4, x5, x6⟩ := q.all
      have hrow := hla.row
      have hv0 := hv
      have g0 := q.all
      clear hr hv hla q hokj
      -- ROUND
      go_upto_region 8 with fail
      go_cut [9] (fun s wx => ∃ X a' c', s = .pointer (some ⟨X, 0, none⟩) ∧ Sept 46 X (.int .i64 P.d) (.int .i64 P.k) (.slice a' P.zs.length c') (.int .i64 P.h) (.int .i64 P.p) (.int .i64 P.q) (.int .i64 P.u) wx ∧ Own .i64 wr.heap.size wx.heap.size wx a' P.zs.length P.zs ∧ P.zs.length ≤ c' ∧ c' ≤ maxLen ∧ PBuf 46 w1.heap.size wr.heap.size wx (.slice va o.length vc) o.length o G ∧ Below w1.heap.size w1 wx ∧ wr.heap.size ≤ X ∧ (∀ x, a' = some x → 0 < P.zs.length → x.block ≠ X))
      case first =>
        refine wp_region_held_drew (S := (fun w' => w'.cell? ⟨b, off + j * 7, none⟩ = some (.int .i64 P.d) ∧ w'.cell? ⟨b, off + j * 7 + 1, none⟩ = some (.int .i64 P.k) ∧ w'.cell? ⟨b, off + j * 7 + 2, none⟩ = some (.slice A P.zs.length cc) ∧ w'.cell? ⟨b, off + j * 7 + 3, none⟩ = some (.int .i64 P.h) ∧ w'.cell? ⟨b, off + j * 7 + 4, none⟩ = some (.int .i64 P.p) ∧ w'.cell? ⟨b, off + j * 7 + 5, none⟩ = some (.int .i64 P.q) ∧ w'.cell? ⟨b, off + j * 7 + 6, none⟩ = some (.int .i64 P.u))) (by kernel_rfl) g0 (fun hHeld => ?_)
        refine wpAnyH_take (i := 0) (v := ?va0) (List.getElem?_toArray.trans rfl) (by kernel_rfl) (by kernel_rfl) (by kernel_rfl) (fun _ _ _ h => h) (Or.inl ⟨by rfl, ?ya0⟩) (by assumption) ?ra0
        case ya0 => (intro w hSw; (try dsimp only at hSw); go_simp; try with_reducible rfl)
        try simp only [Act.put, List.setIfInBounds_toArray, List.set_cons_zero, List.set_cons_succ]
        refine wpAnyH_take (i := 1) (v := ?va1) (List.getElem?_toArray.trans rfl) (by kernel_rfl) (by kernel_rfl) (by kernel_rfl) (fun _ _ _ h => h) (Or.inl ⟨by rfl, ?ya1⟩) (by assumption) ?ra1
        case ya1 => (intro w hSw; (try dsimp only at hSw); go_simp; try with_reducible rfl)
        try simp only [Act.put, List.setIfInBounds_toArray, List.set_cons_zero, List.set_cons_succ]
        refine wpAnyH_take (i := 2) (v := ?va2) (List.getElem?_toArray.trans rfl) (by kernel_rfl) (by kernel_rfl) (by kernel_rfl) (fun _ _ _ h => h) (Or.inl ⟨by rfl, ?ya2⟩) (by assumption) ?ra2
        case ya2 => (intro w hSw; (try dsimp only at hSw); go_simp; try with_reducible rfl)
        try simp only [Act.put, List.setIfInBounds_toArray, List.set_cons_zero, List.set_cons_succ]
        refine wpAnyH_take (i := 3) (v := ?va3) (List.getElem?_toArray.trans rfl) (by kernel_rfl) (by kernel_rfl) (by kernel_rfl) (fun _ _ _ h => h) (Or.inl ⟨by rfl, ?ya3⟩) (by assumption) ?ra3
        case ya3 => (intro w hSw; (try dsimp only at hSw); go_simp; try with_reducible rfl)
        try simp only [Act.put, List.setIfInBounds_toArray, List.set_cons_zero, List.set_cons_succ]
        refine wpAnyH_take (i := 4) (v := ?va4) (List.getElem?_toArray.trans rfl) (by kernel_rfl) (by kernel_rfl) (by kernel_rfl) (fun _ _ _ h => h) (Or.inl ⟨by rfl, ?ya4⟩) (by assumption) ?ra4
        case ya4 => (intro w hSw; (try dsimp only at hSw); go_simp; try with_reducible rfl)
        try simp only [Act.put, List.setIfInBounds_toArray, List.set_cons_zero, List.set_cons_succ]
        refine wpAnyH_take (i := 5) (v := ?va5) (List.getElem?_toArray.trans rfl) (by kernel_rfl) (by kernel_rfl) (by kernel_rfl) (fun _ _ _ h => h) (Or.inl ⟨by rfl, ?ya5⟩) (by assumption) ?ra5
        case ya5 => (intro w hSw; (try dsimp only at hSw); go_simp; try with_reducible rfl)
        try simp only [Act.put, List.setIfInBounds_toArray, List.set_cons_zero, List.set_cons_succ]
        refine wpAnyH_take (i := 6) (v := ?va6) (List.getElem?_toArray.trans rfl) (by kernel_rfl) (by kernel_rfl) (by kernel_rfl) (fun _ _ _ h => h) (Or.inl ⟨by rfl, ?ya6⟩) (by assumption) ?ra6
        case ya6 => (intro w hSw; (try dsimp only at hSw); go_simp; try with_reducible rfl)
        try simp only [Act.put, List.setIfInBounds_toArray, List.set_cons_zero, List.set_cons_succ]
        refine wpAnyH_take (i := 7) (v := ?va7) (List.getElem?_toArray.trans rfl) (by kernel_rfl) (by kernel_rfl) (by kernel_rfl) (fun _ _ _ h => h) (Or.inl ⟨by rfl, ?ya7⟩) (by assumption) ?ra7
        case ya7 => (intro w hSw; (try dsimp only at hSw); go_simp; try with_reducible rfl)
        try simp only [Act.put, List.setIfInBounds_toArray, List.set_cons_zero, List.set_cons_succ]
        refine wpAnyH_take (i := 8) (v := ?va8) (List.getElem?_toArray.trans rfl) (by kernel_rfl) (by kernel_rfl) (by kernel_rfl) (fun _ _ _ h => h) (Or.inl ⟨by rfl, ?ya8⟩) (by assumption) ?ra8
        case ya8 => (intro w hSw; (try dsimp only at hSw); go_simp; try with_reducible rfl)
        try simp only [Act.put, List.setIfInBounds_toArray, List.set_cons_zero, List.set_cons_succ]
        refine wpAnyH_take (i := 9) (v := ?va9) (List.getElem?_toArray.trans rfl) (by kernel_rfl) (by kernel_rfl) (by kernel_rfl) (fun _ _ _ h => h) (Or.inl ⟨by rfl, ?ya9⟩) (by assumption) ?ra9
        case ya9 => (intro w hSw; (try dsimp only at hSw); go_simp; try with_reducible rfl)
        try simp only [Act.put, List.setIfInBounds_toArray, List.set_cons_zero, List.set_cons_succ]
        refine wpAnyH_take (i := 11) (v := ?va11) (List.getElem?_toArray.trans rfl) (by kernel_rfl) (by kernel_rfl) (by kernel_rfl) (fun _ _ _ h => h) (Or.inl ⟨by rfl, ?ya11⟩) (by assumption) ?ra11
        case ya11 => (intro w hSw; (try dsimp only at hSw); go_simp; try with_reducible rfl)
        try simp only [Act.put, List.setIfInBounds_toArray, List.set_cons_zero, List.set_cons_succ]
        refine wpAnyH_take (i := 12) (v := ?va12) (List.getElem?_toArray.trans rfl) (by kernel_rfl) (by kernel_rfl) (by kernel_rfl) (fun _ _ _ h => h) (Or.inl ⟨by rfl, ?ya12⟩) (by assumption) ?ra12
        case ya12 => (intro w hSw; (try dsimp only at hSw); go_simp; try with_reducible rfl)
        try simp only [Act.put, List.setIfInBounds_toArray, List.set_cons_zero, List.set_cons_succ]
        refine wpAnyH_take (i := 13) (v := ?va13) (List.getElem?_toArray.trans rfl) (by kernel_rfl) (by kernel_rfl) (by kernel_rfl) (fun _ _ _ h => h) (Or.inl ⟨by rfl, ?ya13⟩) (by assumption) ?ra13
        case ya13 => (intro w hSw; (try dsimp only at hSw); go_simp; try with_reducible rfl)
        try simp only [Act.put, List.setIfInBounds_toArray, List.set_cons_zero, List.set_cons_succ]
        refine wpAnyH_take (i := 14) (v := ?va14) (List.getElem?_toArray.trans rfl) (by kernel_rfl) (by kernel_rfl) (by kernel_rfl) (fun _ _ _ h => h) (Or.inl ⟨by rfl, ?ya14⟩) (by assumption) ?ra14
        case ya14 => (intro w hSw; (try dsimp only at hSw); go_simp; try with_reducible rfl)
        try simp only [Act.put, List.setIfInBounds_toArray, List.set_cons_zero, List.set_cons_succ]
        refine wpAnyH_take (i := 15) (v := ?va15) (List.getElem?_toArray.trans rfl) (by kernel_rfl) (by kernel_rfl) (by kernel_rfl) (fun _ _ _ h => h) (Or.inl ⟨by rfl, ?ya15⟩) (by assumption) ?ra15
        case ya15 => (intro w hSw; (try dsimp only at hSw); go_simp; try with_reducible rfl)
        try simp only [Act.put, List.setIfInBounds_toArray, List.set_cons_zero, List.set_cons_succ]
        refine wpAnyH_ready (rs := [10, 17]) (by kernel_rfl) (by simp) ?_
        refine AllReadyH.cons (List.getElem?_toArray.trans rfl) (fun Kc hKc => ?_) (AllReadyH.cons (List.getElem?_toArray.trans rfl) (fun Kc hKc => ?_) AllReadyH.nil)
        · go_simp
          go_at_call 24
          refine (hC _ rd).mono ?_
          rintro e w9 ⟨a', c', rfl, hO, hnc, hcm, hb9⟩
          have hs9 := hb9.size
          rw [size_drew] at hs9 hO
          have u9 := u.below hb9
          have s9 := u9.all
          refine hKc.out _ _ s9 (fun hHeld => ?_)
          clear hKc Kc
          try simp only [Act.put, List.setIfInBounds_toArray, List.set_cons_zero, List.set_cons_succ]
          refine wpAnyH_take (i := 16) (v := ?vb16) (List.getElem?_toArray.trans rfl) (by kernel_rfl) (by kernel_rfl) (by kernel_rfl) (fun _ _ _ h => h) (Or.inl ⟨by rfl, ?yb16⟩) (by assumption) ?rb16
          case yb16 => (intro w hSw; (try dsimp only at hSw); go_simp; try with_reducible rfl)
          try simp only [Act.put, List.setIfInBounds_toArray, List.set_cons_zero, List.set_cons_succ]
          refine wpAnyH_ready (rs := [17]) (by kernel_rfl) (by simp) ?_
          refine AllReadyH.cons (List.getElem?_toArray.trans rfl) (fun Kc hKc => ?_) AllReadyH.nil
          go_simp
          have hA : Below w9.heap.size w9 (w9.alloc (.cells #[.int .i64 0, .int .i64 0, .slice none 0 0, .int .i64 0, .int .i64 0, .int .i64 0, .int .i64 0] 46)) := (Below.refl _ _).alloc (Nat.le_refl _) _
          have hsA : (w9.alloc (.cells #[.int .i64 0, .int .i64 0, .slice none 0 0, .int .i64 0, .int .i64 0, .int .i64 0, .int .i64 0] 46)).heap.size = w9.heap.size + 1 := size_alloc _ _
          have uZ := u9.below hA
          have qZ := Sept.new 46 (.int .i64 0) (.int .i64 0) (.slice none 0 0) (.int .i64 0) (.int .i64 0) (.int .i64 0) (.int .i64 0) w9
          have s9 := uZ.all
          refine hKc.out _ _ s9 (fun hHeld => ?_)
          clear hKc Kc
          clear hA uZ
          have hA : Below w9.heap.size w9 (w9.alloc (.cells #[.int .i64 P.d, .int .i64 P.k, .slice a' P.zs.length c', .int .i64 P.h, .int .i64 P.p, .int .i64 P.q, .int .i64 P.u] 46)) := (Below.refl _ _).alloc (Nat.le_refl _) _
          have hO2 := (hO.below hA).more (Nat.le_refl _) hA.size
          have hv2 := (hvd.under hb9 (Nat.le_refl _)).under hA hs9
          have hB2 := (bB.trans (hb9.mono bB.size)).trans (hA.mono (by omega))
          have qP := Sept.new 46 (.int .i64 P.d) (.int .i64 P.k) (.slice a' P.zs.length c') (.int .i64 P.h) (.int .i64 P.p) (.int .i64 P.q) (.int .i64 P.u) w9
          have uP := u9.below hA
          try simp only [Act.put, List.setIfInBounds_toArray, List.set_cons_zero, List.set_cons_succ]
          obtain ⟨z0, z1, z2, z3, z4, z5, z6⟩ := qZ.cells
          obtain ⟨f0, f1, f2, f3, f4, f5, f6⟩ := qZ.frozen
          refine wpAnyH_ready (rs := [18]) (by kernel_rfl) (by simp) ?_
          refine AllReadyH.cons (List.getElem?_toArray.trans rfl) (fun Kc hKc => ?_) AllReadyH.nil
          go_simp
          have s9 := uP.all
          refine hKc.out _ _ s9 (fun hHeld => ?_)
          clear hKc Kc
          try simp only [Act.put, List.setIfInBounds_toArray, List.set_cons_zero, List.set_cons_succ]
          refine wpAnyH_done (by kernel_rfl) ?_ _
          go_wp2_with fail
          go_meet
          case rel => exact ⟨_, a', c', rfl, qP, hO2, hnc, hcm, hv2, hB2, hs9, fun x hx hp => by have := own_block hO x hx hp; omega⟩
        · go_simp
          have hA : Below wr.heap.size wr (wr.alloc (.cells #[.int .i64 0, .int .i64 0, .slice none 0 0, .int .i64 0, .int .i64 0, .int .i64 0, .int .i64 0] 46)).drew := ((Below.refl _ _).alloc (Nat.le_refl _) _).drew
          have hsA : (wr.alloc (.cells #[.int .i64 0, .int .i64 0, .slice none 0 0, .int .i64 0, .int .i64 0, .int .i64 0, .int .i64 0] 46)).drew.heap.size = wr.heap.size + 1 := size_alloc _ _
          have uA : Cells7 (wr.alloc (.cells #[.int .i64 0, .int .i64 0, .slice none 0 0, .int .i64 0, .int .i64 0, .int .i64 0, .int .i64 0] 46)).drew b (off + j * 7) P A cc := u.keep (by show (wr.alloc _).heap[b]? = wr.heap[b]?; exact Below.heap_alloc _ _ _ (by omega))
          have qA : Sept 46 wr.heap.size (.int .i64 0) (.int .i64 0) (.slice none 0 0) (.int .i64 0) (.int .i64 0) (.int .i64 0) (.int .i64 0) (wr.alloc (.cells #[.int .i64 0, .int .i64 0, .slice none 0 0, .int .i64 0, .int .i64 0, .int .i64 0, .int .i64 0] 46)).drew := Sept.new 46 (.int .i64 0) (.int .i64 0) (.slice none 0 0) (.int .i64 0) (.int .i64 0) (.int .i64 0) (.int .i64 0) wr
          have s9 := uA.all
          refine hKc.out _ _ s9 (fun hHeld => ?_)
          clear hKc Kc
          try simp only [Act.put, List.setIfInBounds_toArray, List.set_cons_zero, List.set_cons_succ]
          refine wpAnyH_ready (rs := [10]) (by kernel_rfl) (by simp) ?_
          refine AllReadyH.cons (List.getElem?_toArray.trans rfl) (fun Kc hKc => ?_) AllReadyH.nil
          go_simp
          go_at_call 24
          refine (hC _ (hrow.below hA)).mono ?_
          rintro e w9 ⟨a', c', rfl, hO, hnc, hcm, hb9⟩
          have hs9 := hb9.size
          rw [hsA] at hs9 hO
          have uZ := uA.below hb9
          have qZ := qA.below hb9
          have s9 := uZ.all
          refine hKc.out _ _ s9 (fun hHeld => ?_)
          clear hKc Kc
          try simp only [Act.put, List.setIfInBounds_toArray, List.set_cons_zero, List.set_cons_succ]
          refine wpAnyH_take (i := 16) (v := ?vc16) (List.getElem?_toArray.trans rfl) (by kernel_rfl) (by kernel_rfl) (by kernel_rfl) (fun _ _ _ h => h) (Or.inl ⟨by rfl, ?yc16⟩) (by assumption) ?rc16
          case yc16 => (intro w hSw; (try dsimp only at hSw); go_simp; try with_reducible rfl)
          try simp only [Act.put, List.setIfInBounds_toArray, List.set_cons_zero, List.set_cons_succ]
          obtain ⟨z0, z1, z2, z3, z4, z5, z6⟩ := qZ.cells
          obtain ⟨f0, f1, f2, f3, f4, f5, f6⟩ := qZ.frozen
          refine wpAnyH_ready (rs := [18]) (by kernel_rfl) (by simp) ?_
          refine AllReadyH.cons (List.getElem?_toArray.trans rfl) (fun Kc hKc => ?_) AllReadyH.nil
          go_simp
          have qP := ((((((qZ.set0 (.int .i64 P.d)).set1 (.int .i64 P.k)).set2 (.slice a' P.zs.length c')).set3 (.int .i64 P.h)).set4 (.int .i64 P.p)).set5 (.int .i64 P.q)).set6 (.int .i64 P.u)
          have zP : Zone wr.heap.size (wr.heap.size + 1) w9 (((((((w9.setCell ⟨wr.heap.size, 0, none⟩ (.int .i64 P.d)).setCell ⟨wr.heap.size, 1, none⟩ (.int .i64 P.k)).setCell ⟨wr.heap.size, 2, none⟩ (.slice a' P.zs.length c')).setCell ⟨wr.heap.size, 3, none⟩ (.int .i64 P.h)).setCell ⟨wr.heap.size, 4, none⟩ (.int .i64 P.p)).setCell ⟨wr.heap.size, 5, none⟩ (.int .i64 P.q)).setCell ⟨wr.heap.size, 6, none⟩ (.int .i64 P.u)) := put7_zone (Zone.refl _ _ _) wr.heap.size 0 P a' P.zs.length c' ⟨Nat.le_refl _, Nat.lt_succ_self _⟩
          have sP : (((((((w9.setCell ⟨wr.heap.size, 0, none⟩ (.int .i64 P.d)).setCell ⟨wr.heap.size, 1, none⟩ (.int .i64 P.k)).setCell ⟨wr.heap.size, 2, none⟩ (.slice a' P.zs.length c')).setCell ⟨wr.heap.size, 3, none⟩ (.int .i64 P.h)).setCell ⟨wr.heap.size, 4, none⟩ (.int .i64 P.p)).setCell ⟨wr.heap.size, 5, none⟩ (.int .i64 P.q)).setCell ⟨wr.heap.size, 6, none⟩ (.int .i64 P.u)).heap.size = w9.heap.size := put7_size w9 wr.heap.size 0 P a' P.zs.length c'
          have uP : Cells7 (((((((w9.setCell ⟨wr.heap.size, 0, none⟩ (.int .i64 P.d)).setCell ⟨wr.heap.size, 1, none⟩ (.int .i64 P.k)).setCell ⟨wr.heap.size, 2, none⟩ (.slice a' P.zs.length c')).setCell ⟨wr.heap.size, 3, none⟩ (.int .i64 P.h)).setCell ⟨wr.heap.size, 4, none⟩ (.int .i64 P.p)).setCell ⟨wr.heap.size, 5, none⟩ (.int .i64 P.q)).setCell ⟨wr.heap.size, 6, none⟩ (.int .i64 P.u)) b (off + j * 7) P A cc := uZ.keep (put7_block w9 wr.heap.size 0 P a' P.zs.length c' b (by omega))
          have hO2 := (hO.zone zP (Or.inr (Nat.le_refl _))).more (lo' := wr.heap.size) (Nat.le_succ _) (Nat.le_of_eq sP.symm)
          have hv2 := ((hv0.under hA (Nat.le_refl _)).under hb9 (by rw [hsA]; omega)).zone zP (Or.inl (Nat.le_refl _))
          have hB2 : Below w1.heap.size w1 (((((((w9.setCell ⟨wr.heap.size, 0, none⟩ (.int .i64 P.d)).setCell ⟨wr.heap.size, 1, none⟩ (.int .i64 P.k)).setCell ⟨wr.heap.size, 2, none⟩ (.slice a' P.zs.length c')).setCell ⟨wr.heap.size, 3, none⟩ (.int .i64 P.h)).setCell ⟨wr.heap.size, 4, none⟩ (.int .i64 P.p)).setCell ⟨wr.heap.size, 5, none⟩ (.int .i64 P.q)).setCell ⟨wr.heap.size, 6, none⟩ (.int .i64 P.u)) := put7_below ((hbr.trans (hA.mono hbs)).trans (hb9.mono (by rw [hsA]; omega))) wr.heap.size 0 P a' P.zs.length c' hbs
          have s9 := uP.all
          refine hKc.out _ _ s9 (fun hHeld => ?_)
          clear hKc Kc
          try simp only [Act.put, List.setIfInBounds_toArray, List.set_cons_zero, List.set_cons_succ]
          refine wpAnyH_done (by kernel_rfl) ?_ _
          go_wp2_with fail
          go_meet
          case rel => exact ⟨_, a', c', rfl, qP, hO2, hnc, hcm, hv2, hB2, Nat.le_refl _, fun x hx hp => by have := own_block hO x hx hp; omega⟩
      case rest =>
        obtain ⟨X, a', c', rfl, Q, hO, hnc, hcm, hv2, hB2, hX, hXa⟩ := hcut
        clear hC hrow hv0 hvd u rd g g0 bB hbr x0 x1 x2 x3 x4 x5 x6
        obtain ⟨q0, q1, q2, q3, q4, q5, q6⟩ := Q.cells
        obtain ⟨f0, f1, f2, f3, f4, f5, f6⟩ := Q.frozen
        have hX' : wr.heap.size ≤ wr.heap.size := Nat.le_refl _
        have hXl := Q.lt
        by_cases hjk : j = K
        · have HPd := Lib.hid (hjK.1 hjk)
          have hb1 : ((j : Int) == (K : Int)) = true := by simp [hjk]
          have hw1 : IntKind.wrap .i64 (P.u - 1) = P.u - 1 := by rw [IntKind.wrap_i64]; omega
          have HJ := Lib.hid hjk
          have Q2 := Q.set6 (.int .i64 (P.u - 1))
          have zX : Zone X (X + 1) wc (wc.setCell ⟨X, 6, none⟩ (.int .i64 (P.u - 1))) := (Zone.refl _ _ _).setCell ⟨Nat.le_refl _, Nat.lt_succ_self _⟩ _
          have sX : (wc.setCell ⟨X, 6, none⟩ (.int .i64 (P.u - 1))).heap.size = wc.heap.size := size_set _ _ _
          have hB3 : Below w1.heap.size w1 (wc.setCell ⟨X, 6, none⟩ (.int .i64 (P.u - 1))) := hB2.setCell (by show w1.heap.size ≤ X; omega) _
          have hv3 := hv2.zone zX (Or.inl hX)
          obtain ⟨r0, r1, r2, r3, r4, r5, r6⟩ := Q2.cells
          clear hjK hjk
          by_cases h0 : 0 < P.u - 1
          · have hg : decide (P.u - 1 > 0) = true := by simp; omega
            have hg2 : decide (0 < P.u - 1) = true := by simp; omega
            have hO3 : Own .i64 wr.heap.size (wc.setCell ⟨X, 6, none⟩ (.int .i64 (P.u - 1))).heap.size (wc.setCell ⟨X, 6, none⟩ (.int .i64 (P.u - 1))) a' P.zs.length P.zs := by
              refine ⟨hO.len, hO.wf, fun hp => ?_⟩
              obtain ⟨g, off', e1, e2, e3, e4⟩ := hO.here hp
              have hgX : g ≠ X := hXa _ e1 hp
              refine ⟨g, off', e1, e2, by rw [sX]; exact e3, fun t ht => ?_⟩
              have e := Below.heap_setCell wc ⟨X, 6, none⟩ (.int .i64 (P.u - 1)) g hgX
              rw [Mem.cell_of_heap e, Mem.frozen_of_heap e]
              exact e4 t ht
            have hsW : wr.heap.size ≤ (wc.setCell ⟨X, 6, none⟩ (.int .i64 (P.u - 1))).heap.size := by rw [sX]; omega
            have hA : Below (wc.setCell ⟨X, 6, none⟩ (.int .i64 (P.u - 1))).heap.size (wc.setCell ⟨X, 6, none⟩ (.int .i64 (P.u - 1))) ((wc.setCell ⟨X, 6, none⟩ (.int .i64 (P.u - 1))).alloc (.cells #[.int .i64 P.d, .int .i64 P.k, .slice a' P.zs.length c', .int .i64 P.h, .int .i64 P.p, .int .i64 P.q, .int .i64 (P.u - 1)] 46)) := (Below.refl _ _).alloc (Nat.le_refl _) _
            have sA := Sept.new 46 (.int .i64 P.d) (.int .i64 P.k) (.slice a' P.zs.length c') (.int .i64 P.h) (.int .i64 P.p) (.int .i64 P.q) (.int .i64 (P.u - 1)) (wc.setCell ⟨X, 6, none⟩ (.int .i64 (P.u - 1)))
            rw [sX] at sA
            have hvA := hv3.under hA (Nat.le_trans hX' hsW)
            have hOA := (hO3.below hA).more (Nat.le_refl _) hA.size
            have hsA := hA.size
            go_wp2_with (at_builtin; refine wpList_append_parts (M := wr.heap.size) rfl _ _ rfl hvA (News.one (P := dec P) sA hOA hnc hcm (wP.dec hu1)) ?c1 ?c2 ?c3 rfl rfl ?_; (case c1 => exact hbs); (case c2 => omega); (case c3 => omega); intro v' w5 hv5 hb5 _)
            obtain ⟨va', vc', rfl⟩ := hv5.slice
            go_wp2
            go_roundw
            case rel =>
              refine ⟨j + 1, o ++ [dec P], _, by omega, by go_num, by simp; omega, by simpa using hv5, ?_, (hB3.trans (hA.mono (Nat.le_trans hbs (Nat.le_trans hX' hsW)))).trans hb5⟩
              have h1 := HO.out
              have h2 := HD.out
              rw [show dec1 d P = dec P by simp [dec1, HPd.out], if_pos (show 0 < (dec P).u from h0)] at h2
              rw [h2] at h1
              simpa [Hid] using h1
            case measure => simp [Go.RowKit.intOf]; omega
          · have hg : decide (P.u - 1 > 0) = false := by simp; omega
            have hg2 : decide (0 < P.u - 1) = false := by simp; omega
            go_wp2
            go_roundw
            case rel =>
              refine ⟨j + 1, o, G, by omega, by go_num, by omega, hv3.more (by rw [sX]; omega), ?_, hB3⟩
              have h1 := HO.out
              have h2 := HD.out
              rw [show dec1 d P = dec P by simp [dec1, HPd.out], if_neg (show ¬ 0 < (dec P).u from h0)] at h2
              rw [h2] at h1
              simpa [Hid] using h1
            case measure => simp [Go.RowKit.intOf]; omega
        · have hPd : ¬ P.d = d := fun h => hjk (hjK.2 h)
          have hb1 : ((j : Int) == (K : Int)) = false := by simp; omega
          have hg : decide (P.u > 0) = true := by simp; omega
          have hg2 : decide (0 < P.u) = true := by simp; omega
          have hv3 := hv2
          have hO3 := hO
          have hB3 := hB2
          have hsW : wr.heap.size ≤ wc.heap.size := by omega
          clear hjK hjk
          have hA : Below wc.heap.size wc (wc.alloc (.cells #[.int .i64 P.d, .int .i64 P.k, .slice a' P.zs.length c', .int .i64 P.h, .int .i64 P.p, .int .i64 P.q, .int .i64 P.u] 46)) := (Below.refl _ _).alloc (Nat.le_refl _) _
          have sA := Sept.new 46 (.int .i64 P.d) (.int .i64 P.k) (.slice a' P.zs.length c') (.int .i64 P.h) (.int .i64 P.p) (.int .i64 P.q) (.int .i64 P.u) wc
          have hvA := hv3.under hA (Nat.le_trans hX' hsW)
          have hOA := (hO3.below hA).more (Nat.le_refl _) hA.size
          have hsA := hA.size
          go_wp2_with (at_builtin; refine wpList_append_parts (M := wr.heap.size) rfl _ _ rfl hvA (News.one (P := P) sA hOA hnc hcm wP) ?c1 ?c2 ?c3 rfl rfl ?_; (case c1 => exact hbs); (case c2 => omega); (case c3 => omega); intro v' w5 hv5 hb5 _)
          obtain ⟨va', vc', rfl⟩ := hv5.slice
          go_wp2
          go_roundw
          case rel =>
            refine ⟨j + 1, o ++ [P], _, by omega, by go_num, by simp; omega, by simpa using hv5, ?_, (hB3.trans (hA.mono (Nat.le_trans hbs (Nat.le_trans hX' hsW)))).trans hb5⟩
            have h1 := HO.out
            have h2 := HD.out
            rw [show dec1 d P = P by simp [dec1, hPd], if_pos (show 0 < P.u by omega)] at h2
            rw [h2] at h1
            simpa [Hid] using h1
          case measure => simp [Go.RowKit.intOf]; omega
    · have hd : decide ((j : Int) < (n : Int)) = false := by simp; omega
      have HE := Lib.hid (show j = n by omega)
      obtain ⟨va, vc, rfl⟩ := hv.slice
      go_wp2
      have h1 := HO.out
      rw [HE.out, ← HL.out, List.drop_length] at h1
      simp only [td, List.append_nil] at h1
      go_ret2
      subst h1
      exact ⟨_, G, rfl, hv, hbr⟩
end Go.Proofs.YtedjclnojocjkaaDoor.Parts
