/-
  The draws of sites: versions, an address that is asked.
  Conditions: the bytes lie below the cursor's block.
-/
import Derived.Test.YtagnhfalmefbhaaDrawRes
import Derived.Test.YtagnhfalmefbhaaDraws
import Derived.Test.YtagnhfalmefbhaaBufA
import Derived.Test.YtagnhfalmefbhaaLaw9Math
import Derived.Test.YtagnhfalmefbhaaPasted
namespace Go.Proofs.Ytagnhfalmefbhaa.Draw
open Go Go.RowKit Go.Proofs.Ytagnhfalmefbhaa.Mem Go.Proofs.Ytagnhfalmefbhaa.Gen Go.Proofs.Ytagnhfalmefbhaa.Adr Go.Proofs.Ytagnhfalmefbhaa.Res Go.Proofs.Ytagnhfalmefbhaa.Sites

theorem wf9 {z : Int} (h : I64 z) : (Lit.int .i64 z).wf = true := WalkArith.wf_i64 (by unfold I64 at h; omega)
theorem i64_of {z : Int} (h : (Lit.int .i64 z).wf = true) : I64 z := by have := bounds_i64 h; unfold I64; omega
/-- The wanted values of a version that is appended. -/
theorem fresh_ver {M hi : Nat} {w : World} {V : TVersion} {a : Option Addr} {c : Nat} (h : Mem.Own .i64 M hi w a V.f2.f1.length V.f2.f1) (h1 : V.f2.f1.length ≤ c) (h2 : c ≤ maxLen) (w0 : WfA V.f0) (w3 : (Lit.int .i64 V.f1).wf = true) (w4 : (Lit.int .i64 V.f2.f0).wf = true) (w6 : WfA V.f2.f2) :
    Fresh M hi 9 (fun x t => x = 5 ∧ (M ≤ t ∧ t < hi)) V.c (verCells V a c) w :=
  ⟨rfl, fun _ _ _ h => h.2, fun _ _ _ _ _ h h' => h.1.trans h'.1.symm, fun x hx => by
    match x, hx with
    | 0, _ => exact ⟨_, rfl, rfl, w0.1⟩
    | 1, _ => exact ⟨_, rfl, rfl, w0.2.1⟩
    | 2, _ => exact ⟨_, rfl, rfl, w0.2.2⟩
    | 3, _ => exact ⟨_, rfl, rfl, w3⟩
    | 4, _ => exact ⟨_, rfl, rfl, w4⟩
    | 5, _ => exact ⟨_, rfl, Owns.of_row h h1 h2 fun t h1 h2 => ⟨rfl, h1, h2⟩⟩
    | 6, _ => exact ⟨_, rfl, rfl, w6.1⟩
    | 7, _ => exact ⟨_, rfl, rfl, w6.2.1⟩
    | 8, _ => exact ⟨_, rfl, rfl, w6.2.2⟩⟩
theorem ver_one (V : TVersion) (a : Option Addr) (c : Nat) : ∀ u ∈ verCells V a c, u.oneCell' = true := by simp [verCells, Value.oneCell']
theorem snoc_ver {l : List TVersion} {V : TVersion} {n : Nat} (hn : l.length = n) : ∀ i, i < n + 1 → ∀ x, x < 9 → snoc n (fun i => (l.getD i nVersion).c) V.c i x = ((l ++ [V]).getD i nVersion).c x := by
  intro i hi x _
  subst hn
  unfold snoc
  by_cases he : i < l.length
  · rw [if_pos he, getD_left he]
  · rw [if_neg he, show i = l.length by omega, getD_last]
theorem small_snoc {l : List TVersion} {V : TVersion} (h : ∀ P ∈ l, SmallV P) (hV : SmallV V) : ∀ P ∈ l ++ [V], SmallV P := by
  intro P hP
  rcases List.mem_append.1 hP with h1 | h1
  · exact h P h1
  · rw [List.mem_singleton.1 h1]; exact hV
theorem buf_only {T : TypeId} {base hi k n p : Nat} {w w' : World} {v : Value} {f : Nat → Nat → Dat} (h : Buf T base hi k w v n f) (ho : Only p w w') (hp : p < base) : Buf T base hi k w' v n f :=
  h.keep fun t ht hb _ => ho.block t ht (by omega)
def vers (l : List TVersion) : Nat → Nat → Dat := fun i => (l.getD i nVersion).c

/-- Drawn versions. -/
def IsVers (T B p : Nat) (w : World) (e : Ending) (w' : World) : Prop :=
  ∃ (v : Value) (l : List TVersion), e = .returned v ∧ Buf 103 w.heap.size w'.heap.size 9 w' v l.length (vers l) ∧ l.length ≤ 8 ∧ (∀ P ∈ l, SmallV P) ∧ Cur T B p w' ∧ Only p w w'

set_option maxHeartbeats 2000000 in
set_option maxRecDepth 100000 in
theorem draw9 (B p : Nat) (w : World) (hc : Cur 97 B p w) :
    Calls Try.prog 88 #[.pointer (some ⟨p, 0, none⟩)] w (IsVers 97 B p w) := by
  obtain ⟨i0, hi0, hz0, hz1, hz2⟩ := info_parts infoVersion
  have hpl := hc.lt
  have hs := Buf.made 103 w.heap.size 9 w (vers []) (Nat.le_refl _)
  have hc0 := hc.below ((Below.refl w.heap.size w).alloc (Nat.le_refl _) (.cells #[] 103))
  have ho0 := (Only.refl p w).alloc (.cells #[] 103)
  go_enter Try.func88, Try.ntmps88
  go_wp2_with fail
  go_at_call 65
  refine (below_any B p _ _ hc0 (by omega) (by omega)).mono ?_
  rintro e w1 ⟨⟨x, hx, rfl⟩, hc1, ho1⟩
  have hx9 : x < 9 := hx
  have hs1 := (buf_only hs ho1 hpl).more (hi' := w1.heap.size) (by have := ho1.size; rw [size_alloc] at this; exact this)
  have hO1 := ho0.trans ho1
  clear hs hc0 ho0 ho1 hx hc
  go_wp2_with fail
  go_loopw [3, 4] (fun v i wr => ∃ (j : Nat) (l : List TVersion), j ≤ x ∧ i = .int .i64 ((x - j : Nat) : Int) ∧ Buf 103 w.heap.size wr.heap.size 9 wr v j (vers l) ∧ l.length = j ∧ Hid (∀ P ∈ l, SmallV P) ∧ Cur 97 B p wr ∧ Only p w wr) (fun _ i _ => (intOf i).toNat)
  case atStart => exact ⟨0, [], Nat.zero_le _, rfl, hs1, rfl, Lib.hid (fun P hP => by cases hP), hc1, hO1⟩
  case round =>
    obtain ⟨j, l, hj, rfl, ho, hlen, hsm, hcr, hor⟩ := hrel
    have HL := Lib.hid hlen
    clear hs1 hc1 hO1 hlen
    have hsz := hor.size
    by_cases hlt : j < x
    · have hd : decide (((x - j : Nat) : Int) > 0) = true := by simp; omega
      have hd' : decide (0 < ((x - j : Nat) : Int)) = true := by simp; omega
      go_wp2_with fail
      go_at_call 92
      refine (draw4 B p _ hcr).mono ?_
      rintro e w2 ⟨⟨h, q, r, hh, hq, hr, rfl⟩, hc2, ho2⟩
      have hs2 := ho2.size
      go_wp2_with fail
      go_at_call 65
      refine (below_any B p _ _ hc2 (by omega) (by omega)).mono ?_
      rintro e w3 ⟨⟨y, hy, rfl⟩, hc3, ho3⟩
      have hy12 : y < 12 := hy
      have hs3 := ho3.size
      go_wp2_with fail
      go_at_call 97
      refine (draw5 B p _ hc3).mono ?_
      rintro e w4 ⟨k, h', q', r', a, n, c, zs, hk, hh', hq', hr', rfl, hv, hn, hg, hc4, ho4⟩
      have hs4 := ho4.size
      have hbuf := (((buf_only (buf_only (buf_only ho ho2 hpl) ho3 hpl) ho4 hpl).more (hi' := w3.heap.size) (by omega)))
      obtain ⟨a', c', e', hn1, hn2, hown⟩ := OwnI.own hv (fun z hz => wf9 (by have := hg z hz; unfold I64; omega))
      injection e' with e1 e2 e3
      subst e1 e3
      have hzl : zs.length = n := OwnI.len hv
      subst hzl
      obtain ⟨V, hV⟩ : ∃ V : TVersion, (⟨⟨h, q, r⟩, (y : Int), ⟨k, zs, ⟨h', q', r'⟩⟩⟩ : TVersion) = V := ⟨_, rfl⟩
      have hF : Fresh w3.heap.size (w4.alloc (.cells (verCells V a c).toArray 103)).heap.size 9 (fun x t => x = 5 ∧ (w3.heap.size ≤ t ∧ t < (w4.alloc (.cells (verCells V a c).toArray 103)).heap.size)) V.c (verCells V a c) (w4.alloc (.cells (verCells V a c).toArray 103)) := by
        subst hV
        exact fresh_ver ((hown.below ((Below.refl _ _).alloc (Nat.le_refl _) _)).more (Nat.le_refl _) (by rw [gsize_alloc]; omega)) hn1 hn2 ⟨wf9 hh, wf9 hq, wf9 hr⟩ (wf9 (by show I64 (y : Int); unfold I64; omega)) (wf9 hk) ⟨wf9 hh', wf9 hq', wf9 hr'⟩
      have hSV : SmallV V := by subst hV; exact ⟨⟨wf9 hh, wf9 hq, wf9 hr⟩, by simp, by simp; omega, hn⟩
      have hbuf := hbuf.below ((Below.refl w4.heap.size w4).alloc (Nat.le_refl _) (.cells (verCells V a c).toArray 103))
      have qB := Blk.new 103 (verCells V a c) w4
      have hc5 := hc4.below ((Below.refl w4.heap.size w4).alloc (Nat.le_refl _) (.cells (verCells V a c).toArray 103))
      have hor5 := (((hor.trans ho2).trans ho3).trans ho4).alloc (.cells (verCells V a c).toArray 103)
      have hone := ver_one V a c
      have hSV := Lib.hid hSV
      obtain ⟨W5, hW5⟩ : ∃ W5, w4.alloc (.cells (verCells V a c).toArray 103) = W5 := ⟨_, rfl⟩
      obtain ⟨us, hus⟩ : ∃ us, verCells V a c = us := ⟨_, rfl⟩
      have hs5 : w4.heap.size < W5.heap.size := by rw [← hW5, gsize_alloc]; omega
      rw [hW5] at hF hbuf qB hc5 hor5
      rw [hus] at hF qB hone
      have hW5' : w4.alloc (.cells #[.int .i64 h, .int .i64 q, .int .i64 r, .int .i64 (y : Int), .int .i64 k, .slice a zs.length c, .int .i64 h', .int .i64 q', .int .i64 r'] 103) = W5 := by rw [← hW5, ← hV]; rfl
      have HW := Lib.hid hW5'
      clear hW5 hW5' hus hV ho4 ho3 ho2 hc4 hc3 hc2 hor hcr ho hown hv hy hn1 hn2
      go_wp2_with (at_builtin; rw [HW.out]; refine wpList_append_el rfl _ _ 24 rfl i0 _ 88 Try.underlying24 hi0 hz0 hz1 hz2 rfl (by omega) (by omega) hbuf ?c1 ?c2 hF (fun j u hu => qB.at hu) hone ?c3 rfl rfl ?_; (case c1 => omega); (case c2 => omega); (case c3 => omega); intro v' w' hb' hbl' hk')
      go_roundw
      case rel =>
        have hlen := HL.out
        exact ⟨j + 1, l ++ [V], by omega, by go_num, hb'.congr (snoc_ver hlen), by rw [List.length_append, hlen]; rfl, Lib.hid (small_snoc hsm.out hSV.out), hc5.under hbl' hpl, hor5.under hbl' (Nat.le_refl _)⟩
      case measure => simp [intOf]; omega
    · have HE := Lib.hid (show x - j = 0 by omega)
      have hd : decide (((x - j : Nat) : Int) > 0) = false := by simp; omega
      have hd' : decide (0 < ((x - j : Nat) : Int)) = false := by simp; omega
      go_wp2
      go_ret
      have hlen := HL.out
      exact ⟨_, l, rfl, by rw [hlen]; exact ho, by omega, hsm.out, hcr, hor⟩
end Go.Proofs.Ytagnhfalmefbhaa.Draw
