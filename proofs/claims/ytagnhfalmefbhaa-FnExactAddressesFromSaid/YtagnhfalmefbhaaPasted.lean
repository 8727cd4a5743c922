/-
  The program's map from addresses to their versions: asked, entered, written. The versions of one address as a slice of the call's own, what they lead to being the argument's; one for each address; one version more. The program's map of a site: for each address its versions, in the order of the site.
  Conditions: as each theorem states them.
-/
import Derived.Test.YtagnhfalmefbhaaPastMath
import Derived.Test.YtagnhfalmefbhaaData
import Derived.WideKeyEntry
import Derived.DeepKeys4
import Derived.Maps.OwnSet
import Derived.Maps.Views
import Derived.Carry
import Derived.Lib.AppendZeros
import Derived.OwnWalk
namespace Go.Proofs.Ytagnhfalmefbhaa.Sites
open Go Go.RowKit Go.Proofs.Ytagnhfalmefbhaa.Mem Go.Proofs.Ytagnhfalmefbhaa.Gen Go.Proofs.Ytagnhfalmefbhaa.Adr Go.Proofs.Ytagnhfalmefbhaa.Res
open Go.Maps (IsMap atKey_put_same atKey_put_other)

set_option maxHeartbeats 1000000 in
theorem key_gen {P : Program} {k i n : Nat} {f0 f1 f2 : Field} (hs : P.types.size = n + 1) (hk : P.underlying k = some (.struct #[f0, f1, f2])) (hi : P.underlying i = some (.int .i64)) (t0 : f0.type = i) (t1 : f1.type = i) (t2 : f2.type = i) (o0 : f0.offset = 0) (o1 : f1.offset = 1) (o2 : f2.offset = 2) (n0 : (f0.name != "_") = true) (n1 : (f1.name != "_") = true) (n2 : (f2.name != "_") = true)
    (k1 : P.keyType k = true) (k2 : P.cellsOf k = 3) (k3 : P.cellsOf i = 1) {a b c : Int} (ha : (Lit.int .i64 a).wf = true) (hb : (Lit.int .i64 b).wf = true) (hc : (Lit.int .i64 c).wf = true) : ∃ s, keyOf P k (.agg #[.int .i64 a, .int .i64 b, .int .i64 c]) = some s := by
  simp [keyOf, hk, k1, Value.formed, k2, hs, Program.keyLits, k3, hi, Value.cells, ha, hb, hc, t0, t1, t2, o0, o1, o2, n0, n1, n2]
set_option maxRecDepth 100000 in
theorem laidOut : laidOutB Try.prog = true := by kernel_rfl
theorem rowA : (29 : TypeId) < Try.prog.types.size := of_decide_eq_true (by kernel_rfl)
theorem wideA : (match Try.prog.underlying 29 with | some (.array _ _) | some (.struct _) => true | _ => false) = true := by rw [Try.underlying29]
theorem typeA : Try.prog.keyTypeAt 2 29 = true := by kernel_rfl
theorem typeA' : Try.prog.keyType 29 = true := by kernel_rfl
set_option maxRecDepth 100000 in
theorem law_A : Go.WideMaps.KeyLaw Try.prog 29 := deep_law_laid laidOut (m := 2) (by omega) rowA typeA wideA
theorem keyed_A : Go.Maps.Keyed Try.prog 29 := Go.Maps.Keyed.of_law law_A
def vA (A : TAddress) : Value := .agg #[.int .i64 A.f0, .int .i64 A.f1, .int .i64 A.f2]
def WfA (A : TAddress) : Prop := (Lit.int .i64 A.f0).wf = true ∧ (Lit.int .i64 A.f1).wf = true ∧ (Lit.int .i64 A.f2).wf = true
noncomputable def kA (A : TAddress) : Lit := (keyOf Try.prog 29 (vA A)).getD (.string [])
theorem size_ex {P : Program} {k : Nat} (h : k < P.types.size) : ∃ n, P.types.size = n + 1 := ⟨P.types.size - 1, by omega⟩
theorem cellsA : Try.prog.cellsOf 29 = 3 := by kernel_rfl
theorem cellsI : Try.prog.cellsOf 3 = 1 := by kernel_rfl
theorem key_ex {A : TAddress} (h : WfA A) : ∃ k, keyOf Try.prog 29 (vA A) = some k := by
  obtain ⟨n, hn⟩ := size_ex rowA
  exact key_gen hn Try.underlying29 Try.underlying3 rfl rfl rfl rfl rfl rfl rfl rfl rfl typeA' cellsA cellsI h.1 h.2.1 h.2.2
theorem key_A {A : TAddress} (h : WfA A) : keyOf Try.prog 29 (vA A) = some (kA A) := by
  obtain ⟨k, hk⟩ := key_ex h
  unfold kA
  rw [hk]
  rfl
theorem vA_inj {A B : TAddress} (h : vA A = vA B) : A = B := by
  obtain ⟨a0, a1, a2⟩ := A
  obtain ⟨b0, b1, b2⟩ := B
  simpa [vA] using h
theorem kA_inj {A B : TAddress} (hA : WfA A) (hB : WfA B) (e : kA A = kA B) : A = B := vA_inj (keyed_A.inj (key_A hA) (by rw [e]; exact key_A hB))

def anyR (v : Value) : Option (DataW Value × List MemPlace) := some (.held v, [])
theorem anyR_mk (v : Value) : anyR v = some (.held v, []) := rfl
theorem anyR_inv {v u : Value} {ps : List MemPlace} (h : anyR v = some (.held u, ps)) : v = u := by
  unfold anyR at h
  injection h with h
  injection h with h _
  injection h
theorem zero_past (w : World) : (zeroValue 130).run Try.prog w = .ok (.slice none 0 0) w := by kernel_rfl
def Dict (D : DataW Value) (F : TAddress → Value) : Prop := ∀ A, WfA A → D.atKey (kA A) (.held (.slice none 0 0)) = .held (F A)
/-- Block b holds a map that reads as F: a nil slice where nothing stands. -/
def Pasts (b n : Nat) (w : World) (F : TAddress → Value) : Prop := ∃ D : DataW Value, w.ownsMap Try.prog 29 anyR b n D ∧ Dict D F
theorem Pasts.keep {b n : Nat} {w w' : World} {F : TAddress → Value} (h : Pasts b n w F) (hb : w'.heap[b]? = w.heap[b]?) : Pasts b n w' F := by
  obtain ⟨D, ⟨es, clock, h1, h2⟩, h3⟩ := h
  exact ⟨D, ⟨es, clock, hb.trans h1, h2⟩, h3⟩
theorem Pasts.lt {b n : Nat} {w : World} {F : TAddress → Value} (h : Pasts b n w F) : b < w.heap.size := by
  obtain ⟨D, h1, _⟩ := h
  exact h1.lt
theorem Pasts.below {b n : Nat} {w w' : World} {F : TAddress → Value} (h : Pasts b n w F) (hb : Below w.heap.size w w') : Pasts b n w' F := h.keep (hb.block _ h.lt)
theorem Pasts.drewN {b n : Nat} {w : World} {F : TAddress → Value} (h : Pasts b n w F) (m : Nat) : Pasts b n (w.drewN m) F := h
theorem Pasts.isMap {b n : Nat} {w : World} {F : TAddress → Value} (h : Pasts b n w F) : ∃ es clock, w.heap[b]? = some (.map es clock) := by
  obtain ⟨D, ⟨es, clock, h1, _⟩, _⟩ := h
  exact ⟨es, clock, h1⟩
theorem Pasts.made (w : World) : Pasts w.heap.size 0 (w.alloc (.map #[] 0)) (fun _ => .slice none 0 0) := ⟨_, World.ownsMap_made w _ _ _, fun _ _ => rfl⟩
/-- What stands under an address. -/
theorem Pasts.look {b n : Nat} {w : World} {F : TAddress → Value} (h : Pasts b n w F) {A : TAddress} (hA : WfA A) :
    (Instr.lookup 106 (.map (some b)) (vA A) false).run Try.prog w = .ok (F A) w := by
  obtain ⟨D, h1, h2⟩ := h
  obtain ⟨v, ps, hr, hv⟩ := h1.lookup keyed_A Try.underlying106 (zero_past w) (anyR_mk _) (key_A hA)
  rw [h2 A hA] at hv
  rw [hr, anyR_inv hv]
/-- Nothing but block b has changed. -/
structure Only (b : Nat) (w w' : World) : Prop where
  os : w'.os = w.os
  tape : w'.tape = w.tape
  output : w'.output = w.output
  size : w'.heap.size = w.heap.size
  block : ∀ i, i ≠ b → w'.heap[i]? = w.heap[i]?
theorem Only.below {b B : Nat} {w w' : World} (h : Only b w w') (hB : B ≤ b) : Below B w w' := ⟨h.os, h.tape, h.output, Nat.le_of_eq h.size.symm, fun i hi => h.block i (by omega)⟩
theorem only_set {b : Nat} {w : World} {es : Array MapEntry} {clock : Nat} (hb : w.heap[b]? = some (.map es clock)) (o : Obj) : Only b w (Go.ChangeMaps.setBlock w b o) :=
  ⟨rfl, rfl, rfl, by simp [Go.ChangeMaps.setBlock], fun i hi => Go.ChangeMaps.heap_setBlock_other hb _ hi⟩
def upd (F : TAddress → Value) (A : TAddress) (v : Value) : TAddress → Value := fun B => if sameA B A = true then v else F B
theorem upd_same (F : TAddress → Value) (A : TAddress) (v : Value) : upd F A v A = v := by unfold upd; rw [if_pos (sameA_iff.2 rfl)]
theorem upd_other {F : TAddress → Value} {A B : TAddress} {v : Value} (h : B ≠ A) : upd F A v B = F B := by unfold upd; rw [if_neg (fun e => h (sameA_iff.1 e))]
set_option maxHeartbeats 1000000 in
set_option maxRecDepth 100000 in
/-- An entry is taken up, and written later. -/
theorem Pasts.entry {b n : Nat} {w : World} {F : TAddress → Value} (h : Pasts b n w F) (hn : n ≤ 1048576) {A : TAddress} (hA : WfA A) :
    ∃ (st : Nat) (w1 : World), (Instr.mapEntry 106 (.map (some b)) (vA A)).run Try.prog w = .ok (.tuple #[F A, .int .i64 st]) w1 ∧ Only b w w1 ∧ (∃ es clock, w1.heap[b]? = some (.map es clock)) ∧
      ∀ w2 v, w2.heap[b]? = w1.heap[b]? → ∃ w3, (Instr.entryStore 106 (.map (some b)) (.int .i64 st) v).run Try.prog w2 = .ok () w3 ∧ Only b w2 w3 ∧ Pasts b (n + 1) w3 (upd F A v) := by
  obtain ⟨D, h1, h2⟩ := h
  have hD := h1.isMap
  obtain ⟨es, clock, hb, Ft, hs, rfl⟩ := id h1
  obtain ⟨v0, st, es1, clock1, hrun, hv0, hst⟩ := Go.WideElems.entry_then_store law_A Try.underlying106 zero_past hb Ft (key_A hA)
  have e0 : v0 = F A := by
    have hat := h2 A hA
    rcases Go.Maps.fit_look false keyed_A Try.underlying106 (zero_past w) hb Ft (key_A hA) with ⟨_, hno, hz⟩ | ⟨e1, y, hm1, hk1, _, hR, hz, _⟩
    · rw [hz] at hat
      rcases hv0 with ⟨e2, hm2, hk2, _⟩ | ⟨_, e⟩
      · exact absurd hk2 (hno e2 hm2)
      · rw [e]; injection hat
    · rw [hz] at hat
      rcases hv0 with ⟨e2, hm2, hk2, e⟩ | ⟨hno, _⟩
      · have hpw := ((Go.MapKept.stamped_iff es clock).1 Ft.stamped).2.2
        have : e1 = e2 := by
          obtain ⟨i, hi, rfl⟩ := List.getElem_of_mem hm1
          obtain ⟨k, hk, rfl⟩ := List.getElem_of_mem hm2
          rcases Nat.lt_trichotomy i k with g | g | g
          · exact absurd (hk1.trans hk2.symm) ((List.pairwise_iff_getElem.1 hpw) i k hi hk g)
          · subst g; rfl
          · exact absurd (hk2.trans hk1.symm) ((List.pairwise_iff_getElem.1 hpw) k i hk hi g)
        subst this
        obtain ⟨y1, y2⟩ := y
        simp only at hat
        rw [hat] at hR
        rw [e, anyR_inv hR]
      · exact absurd hk1 (hno e1 hm1)
  subst e0
  refine ⟨st, _, hrun, only_set hb _, ⟨es1, clock1, Go.ChangeMaps.heap_setBlock_same hb _⟩, fun w2 v hw2 => ?_⟩
  rw [Go.ChangeMaps.heap_setBlock_same hb] at hw2
  obtain ⟨es', clock', hr3, hru⟩ := hst w2 v hw2
  obtain ⟨w', hr', h3, _⟩ := h1.store keyed_A Try.underlying106 (by unfold maxLen; omega) (key_A hA) (anyR_mk v)
  rw [hru] at hr'
  injection hr' with _ hw'
  subst hw'
  obtain ⟨es3, clock3, hb3, hrest⟩ := h3
  rw [Go.ChangeMaps.heap_setBlock_same hb] at hb3
  refine ⟨_, hr3, only_set hw2 _, ⟨_, ⟨es3, clock3, (Go.ChangeMaps.heap_setBlock_same hw2 _).trans hb3, hrest⟩, fun B hB => ?_⟩⟩
  by_cases hBA : B = A
  · subst hBA
    rw [upd_same]
    exact atKey_put_same hD (keyed_A.key (key_A hB)) _ _
  · rw [upd_other hBA]
    exact (atKey_put_other (fun e => hBA (kA_inj hB hA e)) _ _).trans (h2 B hB)
end Go.Proofs.Ytagnhfalmefbhaa.Sites
namespace Go.Proofs.Ytagnhfalmefbhaa.Sites
open Go Go.RowKit Go.Proofs.Ytagnhfalmefbhaa.Mem Go.Proofs.Ytagnhfalmefbhaa.Gen Go.Proofs.Ytagnhfalmefbhaa.Adr Go.Proofs.Ytagnhfalmefbhaa.Res

def PastAt (base lo hi : Nat) (w : World) (v : Value) (p : List TVersion) : Prop :=
  ∃ xs, w.ownsRow base 103 9 v p.length xs ∧ ∀ i, i < p.length → ∀ x, x < 9 → ∃ u, xs[i * 9 + x]? = some u ∧ Lies lo hi w ((p.getD i nVersion).c x) u
section
variable {base lo hi : Nat} {w w' : World} {v : Value} {p : List TVersion}
theorem PastAt.nil (base lo hi : Nat) (w : World) : PastAt base lo hi w (.slice none 0 0) [] := ⟨[], World.ownsRow_nil _ _ _ _, fun i h => absurd h (by simp)⟩
theorem PastAt.keep (h : PastAt base lo hi w v p) (hv : ∀ t, v.ownBlock = some t → w'.heap[t]? = w.heap[t]?) (hk : ∀ t, t < w.heap.size → lo ≤ t → t < hi → w'.heap[t]? = w.heap[t]?) : PastAt base lo hi w' v p := by
  obtain ⟨xs, h1, h2⟩ := h
  refine ⟨xs, ⟨h1.1, ?_⟩, fun i hi x hx => ?_⟩
  · rcases h1.2 with hn | ⟨g, cap, cur, rfl, hb, hg, rest⟩
    · exact .inl hn
    · exact .inr ⟨g, cap, cur, rfl, hb, by rw [hv g rfl]; exact hg, rest⟩
  · obtain ⟨u, g1, g2⟩ := h2 i hi x hx
    exact ⟨u, g1, g2.keep hk⟩
theorem PastAt.lt (h : PastAt base lo hi w v p) {t : Nat} (ht : v.ownBlock = some t) : base ≤ t ∧ t < w.heap.size := by
  obtain ⟨xs, h1, _⟩ := h
  exact h1.lt t ht
theorem PastAt.cells (h : PastAt base lo hi w v p) {t : Nat} (ht : v.ownBlock = some t) : ∃ cur T f, w.heap[t]? = some (.cells cur T f) := by
  obtain ⟨xs, h1, _⟩ := h
  rcases h1.2 with ⟨rfl, _⟩ | ⟨g, cap, cur, rfl, hb, hg, rest⟩
  · simp [Value.ownBlock] at ht
  · simp [Value.ownBlock] at ht
    subst ht
    exact ⟨_, _, _, hg⟩
theorem PastAt.below (h : PastAt base lo hi w v p) (hb : Below w.heap.size w w') : PastAt base lo hi w' v p := h.keep (fun t ht => hb.block t (h.lt ht).2) (fun t ht _ _ => hb.block t ht)
theorem PastAt.shape (h : PastAt base lo hi w v p) : ∃ A c, v = .slice A p.length c := by
  obtain ⟨xs, h1, _⟩ := h
  rcases h1.2 with ⟨rfl, h0⟩ | ⟨g, cap, cur, rfl, _⟩
  · exact ⟨none, 0, by rw [h0]⟩
  · exact ⟨_, _, rfl⟩
theorem PastAt.lies (h : PastAt base lo hi w v p) (hh : hi ≤ w.heap.size) : Lies 0 w.heap.size w (dVersion p) v := by
  obtain ⟨xs, h1, h2⟩ := h
  rcases h1.2 with ⟨rfl, h0⟩ | ⟨g, cap, cur, rfl, hb, hg, hnc, hcm, hcs, hct⟩
  · exact ⟨none, 0, by rw [h0], Nat.le_of_eq h0, Nat.zero_le _, fun hp => absurd hp (by omega)⟩
  · refine ⟨_, cap, rfl, hnc, hcm, fun _ => ⟨g, 0, rfl, Nat.zero_le _, (Array.getElem?_eq_some_iff.1 hg).1, fun i hi x hx => ?_⟩⟩
    obtain ⟨u, g1, g2⟩ := h2 i hi x hx
    have hlt : i * 9 + x < xs.length := (List.getElem?_eq_some_iff.1 g1).1
    rw [Nat.zero_add]
    exact ⟨u, by rw [h1.cellAt _ (by rw [← h1.1]; exact hlt)]; exact g1, g2.more (Nat.zero_le _) hh⟩
end
theorem getD_snoc {p : List TVersion} {V : TVersion} {i : Nat} (hi : i < p.length + 1) : (p ++ [V]).getD i nVersion = if i < p.length then p.getD i nVersion else V := by
  rw [List.getD_eq_getElem?_getD, List.getD_eq_getElem?_getD]
  by_cases h : i < p.length
  · rw [if_pos h, List.getElem?_append_left h]
  · rw [if_neg h, List.getElem?_append_right (by omega), show i - p.length = 0 by omega]
    rfl
/-- One version more. -/
theorem PastAt.append {base lo hi b2 c : Nat} {w : World} {v : Value} {p : List TVersion} {V : TVersion} {us : List Value} (h : PastAt base lo hi w v p) (hbase : hi ≤ base) (hbw : base ≤ w.heap.size) (hul : us.length = 9)
    (hc : ∀ j u, us[j]? = some u → w.cell? ⟨b2, j, none⟩ = some u) (h1 : ∀ u ∈ us, u.oneCell' = true) (hV : ∀ x, x < 9 → ∃ u, us[x]? = some u ∧ Lies lo hi w (V.c x) u) (hn : p.length + 1 ≤ 1048576) (ty : TypeId) :
    ∃ v' w', (Builtin.append_ #[130, 130] ty #[v, .slice (some ⟨b2, 0, none⟩) 1 c]).run Try.prog w = .ok v' w' ∧ PastAt base lo hi w' v' (p ++ [V]) ∧ w.grownBy w' v.ownBlock ∧ (v'.ownBlock = v.ownBlock ∨ v'.ownBlock = some w.heap.size) := by
  obtain ⟨xs, h2, h3⟩ := h
  obtain ⟨i0, hi0, hz0, hz1, hz2⟩ := info_parts infoVersion
  obtain ⟨v', w', hr, h4, h5, _, h6⟩ := run_append_own_at (P := Try.prog) (w := w) base 130 ty 103 i0 _ 9 88 Try.underlying130 hi0 hz0 hz1 hz2 rfl (by omega) v p.length xs h2 ⟨b2, 0, none⟩ 1 c us (by rw [hul]) (fun j u hu => by rw [add_pl, Nat.zero_add]; exact hc j u hu) h1 (by unfold maxLen; omega) (by omega) hbw
  have hxl : xs.length = p.length * 9 := h2.1
  have hold : ∀ t, t < w.heap.size → lo ≤ t → t < hi → w'.heap[t]? = w.heap[t]? := fun t ht _ hth => h5.block t ht fun e => by have := (h2.lt t e.symm).1; omega
  refine ⟨v', w', hr, ⟨xs ++ us, by rw [List.length_append]; exact h4, fun i hi x hx => ?_⟩, h5, h6⟩
  rw [List.length_append, List.length_singleton] at hi
  rw [getD_snoc hi]
  by_cases he : i < p.length
  · obtain ⟨u, g1, g2⟩ := h3 i he x hx
    have hlt : i * 9 + x < xs.length := (List.getElem?_eq_some_iff.1 g1).1
    rw [if_pos he]
    exact ⟨u, by rw [List.getElem?_append_left hlt]; exact g1, g2.keep hold⟩
  · obtain rfl : i = p.length := by omega
    obtain ⟨u, g1, g2⟩ := hV x hx
    rw [if_neg he]
    exact ⟨u, by rw [List.getElem?_append_right (by omega), hxl, Nat.add_sub_cancel_left]; exact g1, g2.keep hold⟩

/-- For each address its versions, in a row of its own. -/
structure Groups (b base lo hi : Nat) (w : World) (F : TAddress → Value) (l : List TVersion) (j : Nat) : Prop where
  one : ∀ A, WfA A → PastAt base lo hi w (F A) (sel l A j)
  apart : ∀ A B t, WfA A → WfA B → (F A).ownBlock = some t → (F B).ownBlock = some t → A = B
section
variable {b base lo hi j : Nat} {w w' : World} {F : TAddress → Value} {l : List TVersion}
theorem Groups.keep (h : Groups b base lo hi w F l j) (hk : ∀ t, t < w.heap.size → w'.heap[t]? = w.heap[t]? ∨ (t = b ∧ hi ≤ b)) (hm : ∃ es clock, w.heap[b]? = some (.map es clock)) : Groups b base lo hi w' F l j := by
  refine ⟨fun A hA => (h.one A hA).keep (fun t ht => ?_) (fun t ht _ hth => ?_), h.apart⟩
  · rcases hk t ((h.one A hA).lt ht).2 with e | ⟨rfl, _⟩
    · exact e
    · obtain ⟨cur, T, f, e1⟩ := (h.one A hA).cells ht
      obtain ⟨es, clock, e2⟩ := hm
      rw [e1] at e2
      cases e2
  · rcases hk t ht with e | ⟨rfl, hb⟩
    · exact e
    · omega
theorem Groups.below (h : Groups b base lo hi w F l j) (hb : Below w.heap.size w w') : Groups b base lo hi w' F l j := ⟨fun A hA => (h.one A hA).below hb, h.apart⟩
theorem Groups.start (b base lo hi : Nat) (w : World) (l : List TVersion) : Groups b base lo hi w (fun _ => .slice none 0 0) l 0 := ⟨fun A _ => PastAt.nil _ _ _ _, fun A B t _ _ h => by simp [Value.ownBlock] at h⟩
set_option maxHeartbeats 1000000 in
/-- One version more is put where it belongs. -/
theorem Groups.step {b2 c n : Nat} {V : TVersion} {us : List Value} (h : Groups b base lo hi w F l j) (hp : Pasts b n w F) (hn : n ≤ 1048576) (hhb : hi ≤ base) (hbb : base ≤ b) (hb2 : b2 ≠ b) (hj : j < l.length) (hVj : l.getD j nVersion = V) (hA : WfA V.f0) (hul : us.length = 9)
    (hc : ∀ j u, us[j]? = some u → w.cell? ⟨b2, j, none⟩ = some u) (h1 : ∀ u ∈ us, u.oneCell' = true) (hV : ∀ x, x < 9 → ∃ u, us[x]? = some u ∧ Lies lo hi w (V.c x) u) (hm : j + 1 ≤ 1048576) (ty : TypeId) :
    ∃ st w1 v' w2 w3 F', (Instr.mapEntry 106 (.map (some b)) (vA V.f0)).run Try.prog w = .ok (.tuple #[F V.f0, .int .i64 st]) w1 ∧
      (Builtin.append_ #[130, 130] ty #[F V.f0, .slice (some ⟨b2, 0, none⟩) 1 c]).run Try.prog w1 = .ok v' w2 ∧
      (Instr.entryStore 106 (.map (some b)) (.int .i64 st) v').run Try.prog w2 = .ok () w3 ∧ Pasts b (n + 1) w3 F' ∧ Groups b base lo hi w3 F' l (j + 1) ∧ Below base w w3 := by
  obtain ⟨st, w1, hr1, ho1, hm1, hst⟩ := hp.entry hn hA
  have hbl := hp.lt
  have g1 : Groups b base lo hi w1 F l j := h.keep (fun t _ => by
    by_cases e : t = b
    · exact .inr ⟨e, by omega⟩
    · exact .inl (ho1.block t e)) hp.isMap
  have hs1 : w1.heap.size = w.heap.size := ho1.size
  have hoth : ∀ t, t < hi → w1.heap[t]? = w.heap[t]? := fun t ht => ho1.block t (by omega)
  obtain ⟨v', w2, hr2, p2, gr2, at2⟩ := (g1.one V.f0 hA).append (V := V) (us := us) (b2 := b2) (c := c) hhb (by omega) hul (fun j u hu => by rw [World.cell?_of_block (w := w) (w' := w1) (a := ⟨b2, j, none⟩) (ho1.block b2 hb2)]; exact hc j u hu) h1
    (fun x hx => by obtain ⟨u, e1, e2⟩ := hV x hx; exact ⟨u, e1, e2.keep fun t _ _ ht => hoth t ht⟩) (by have := sel_len l V.f0 j; omega) ty
  have hnb : ∀ t, (F V.f0).ownBlock = some t → t ≠ b := fun t ht e => by
    subst e
    obtain ⟨cur, T, f, e1⟩ := (g1.one V.f0 hA).cells ht
    obtain ⟨es, clock, e2⟩ := hm1
    rw [e1] at e2
    cases e2
  have e12 : w2.heap[b]? = w1.heap[b]? := gr2.block b (by omega) (fun e => hnb b e.symm rfl)
  obtain ⟨w3, hr3, ho3, hp3⟩ := hst w2 v' e12
  have hm2 : ∃ es clock, w2.heap[b]? = some (.map es clock) := by rw [e12]; exact hm1
  refine ⟨st, w1, v', w2, w3, upd F V.f0 v', hr1, hr2, hr3, hp3, ?_, ?_⟩
  · have hself : sel l V.f0 (j + 1) = sel l V.f0 j ++ [V] := by rw [← hVj]; exact sel_yes hj (sameA_iff.2 rfl)
    have hk3 : ∀ t, t < w2.heap.size → w3.heap[t]? = w2.heap[t]? ∨ (t = b ∧ hi ≤ b) := fun t _ => by
      by_cases e : t = b
      · exact .inr ⟨e, by omega⟩
      · exact .inl (ho3.block t e)
    have gA : Groups b base lo hi w2 (upd F V.f0 v') l (j + 1) := by
      refine ⟨fun B hB => ?_, fun B C t hB hC e1 e2 => ?_⟩
      · by_cases e : B = V.f0
        · subst e
          rw [upd_same, hself]
          exact p2
        · rw [upd_other e, sel_no hj (by rw [hVj]; cases hs : sameA V.f0 B with | false => rfl | true => exact absurd (sameA_iff.1 hs).symm e)]
          refine (g1.one B hB).keep (fun t ht => ?_) (fun t ht _ hth => ?_)
          · exact gr2.block t ((g1.one B hB).lt ht).2 (fun e' => e (g1.apart B V.f0 t hB hA ht e'.symm))
          · exact gr2.block t ht (fun e' => by have := ((g1.one V.f0 hA).lt e'.symm).1; omega)
      · have hfresh : ∀ B, WfA B → B ≠ V.f0 → (F B).ownBlock = some t → v'.ownBlock = some t → False := fun B hB hne e1 e2 => by
          rcases at2 with e | e
          · rw [e] at e2; exact hne (g1.apart B V.f0 t hB hA e1 e2)
          · rw [e] at e2; injection e2 with e2; have := ((g1.one B hB).lt e1).2; omega
        by_cases eB : B = V.f0
        · by_cases eC : C = V.f0
          · rw [eB, eC]
          · rw [eB, upd_same] at e1
            rw [upd_other eC] at e2
            exact (hfresh C hC eC e2 e1).elim
        · rw [upd_other eB] at e1
          by_cases eC : C = V.f0
          · rw [eC, upd_same] at e2
            exact (hfresh B hB eB e1 e2).elim
          · rw [upd_other eC] at e2
            exact g1.apart B C t hB hC e1 e2
    exact gA.keep hk3 hm2
  · have b1 : Below base w w1 := ho1.below hbb
    have b2' : Below base w1 w2 := (Below.refl _ _).grown gr2 (by omega) (fun t e => ((g1.one V.f0 hA).lt e).1)
    exact (b1.trans b2').trans (ho3.below hbb)
end
end Go.Proofs.Ytagnhfalmefbhaa.Sites
namespace Go.Proofs.Ytagnhfalmefbhaa.Sites
open Go Go.RowKit Go.Proofs.Ytagnhfalmefbhaa.Mem Go.Proofs.Ytagnhfalmefbhaa.Gen Go.Proofs.Ytagnhfalmefbhaa.Adr Go.Proofs.Ytagnhfalmefbhaa.Res

/-- The cells of a version. -/
def verCells (V : TVersion) (a : Option Addr) (c : Nat) : List Value := [.int .i64 V.f0.f0, .int .i64 V.f0.f1, .int .i64 V.f0.f2, .int .i64 V.f1, .int .i64 V.f2.f0, .slice a V.f2.f1.length c, .int .i64 V.f2.f2.f0, .int .i64 V.f2.f2.f1, .int .i64 V.f2.f2.f2]
theorem verCells_lie {lo hi : Nat} {w : World} {V : TVersion} {a : Option Addr} {c : Nat} (h : Lies lo hi w (ints V.f2.f1) (.slice a V.f2.f1.length c)) (w0 : (Lit.int .i64 V.f0.f0).wf = true) (w1 : (Lit.int .i64 V.f0.f1).wf = true) (w2 : (Lit.int .i64 V.f0.f2).wf = true) (w3 : (Lit.int .i64 V.f1).wf = true) (w4 : (Lit.int .i64 V.f2.f0).wf = true) (w6 : (Lit.int .i64 V.f2.f2.f0).wf = true) (w7 : (Lit.int .i64 V.f2.f2.f1).wf = true) (w8 : (Lit.int .i64 V.f2.f2.f2).wf = true) :
    ∀ x, x < 9 → ∃ u, (verCells V a c)[x]? = some u ∧ Lies lo hi w (V.c x) u := by
  intro x hx
  match x, hx with
  | 0, _ => exact ⟨_, rfl, rfl, w0⟩
  | 1, _ => exact ⟨_, rfl, rfl, w1⟩
  | 2, _ => exact ⟨_, rfl, rfl, w2⟩
  | 3, _ => exact ⟨_, rfl, rfl, w3⟩
  | 4, _ => exact ⟨_, rfl, rfl, w4⟩
  | 5, _ => exact ⟨_, rfl, h⟩
  | 6, _ => exact ⟨_, rfl, rfl, w6⟩
  | 7, _ => exact ⟨_, rfl, rfl, w7⟩
  | 8, _ => exact ⟨_, rfl, rfl, w8⟩
  | n + 9, h => omega

set_option maxHeartbeats 4000000 in
set_option maxRecDepth 100000 in
theorem pasts_of (lo hi : Nat) (w : World) (L : Option Addr) (c : Nat) (l : List TVersion) (h : Lies lo hi w (dVersion l) (.slice L l.length c)) (hh : hi ≤ w.heap.size) (hm : room (dVersion l) ≤ 1048576) :
    Calls Try.prog 76 #[.slice L l.length c] w fun e w' => ∃ F, e = .returned (.map (some w.heap.size)) ∧ Pasts w.heap.size l.length w' F ∧ Groups w.heap.size w.heap.size lo hi w' F l l.length ∧ Below w.heap.size w w' := by
  obtain ⟨n, hn⟩ : ∃ n, l.length = n := ⟨_, rfl⟩
  have hnm : n ≤ 1048576 := by have : room (dVersion l) = l.length + _ := rfl; omega
  rw [hn] at h ⊢
  have HN := Lib.hid hn
  clear hn hm
  have hp0 := Pasts.made w
  have hg0 := Groups.start w.heap.size w.heap.size lo hi (w.alloc (.map #[] 0)) l
  have hb0 : Below w.heap.size w (w.alloc (.map #[] 0)) := (Below.refl _ _).alloc (Nat.le_refl _) _
  have hmm := @run_makeMap Try.prog
  go_enter Try.func76, Try.ntmps76
  go_wp2
  go_loopw [9] (fun i wr => ∃ (j : Nat) (F : TAddress → Value), j ≤ n ∧ i = .int .i64 j ∧ Pasts w.heap.size j wr F ∧ Groups w.heap.size w.heap.size lo hi wr F l j ∧ Below w.heap.size w wr) (fun i _ => n - (Go.RowKit.intOf i).toNat)
  case atStart => exact ⟨0, _, Nat.zero_le _, rfl, hp0, hg0, hb0⟩
  case round =>
    obtain ⟨j, F, hj, rfl, hp, hg, hb⟩ := hrel
    clear hp0 hg0 hb0
    by_cases hlt : j < n
    · have hbs := hb.size
      have hps := hp.lt
      obtain ⟨b, off, A5, c5, rfl, _, hbh, hc, q5, wf0, wf1, wf2, wf3, wf4, wf6, wf7, wf8, _⟩ := at_Version (h.under hb hh) hlt
      obtain ⟨V, hV⟩ : ∃ V, l.getD j nVersion = V := ⟨_, rfl⟩
      rw [hV] at hc q5 wf0 wf1 wf2 wf3 wf4 wf6 wf7 wf8
      obtain ⟨O, hO⟩ : ∃ O, O = Obj.cells (verCells V A5 c5).toArray 103 (0, 0) := ⟨_, rfl⟩
      have hA2 : Below wr.heap.size wr ((wr.alloc O).alloc O) := by repeat' (first | exact Below.refl _ _ | assumption | refine Below.setCell ?_ ?_ _ | refine Below.alloc ?_ ?_ _ | refine Gen.gbelow_drewN ?_ _ | refine Below.drew ?_ | exact Nat.le_refl _ | omega | (dsimp only; omega) | refine Gen.gle_alloc ?_ | refine Gen.gle_set ?_ | refine Gen.gle_drewN ?_ | refine Gen.gle_drew ?_)
      have qB : Blk 103 wr.heap.size (verCells V A5 c5) (wr.alloc O) := by rw [hO]; exact Blk.new _ _ wr
      have qS : Blk 103 (wr.heap.size + 1) (verCells V A5 c5) ((wr.alloc O).alloc O) := by have := Blk.new 103 (verCells V A5 c5) (wr.alloc O); rw [gsize_alloc] at this; rw [hO] at this ⊢; exact this
      obtain ⟨st, w1, v', w2, w3, F', r1, r2, r3, hp3, hg3, hb3⟩ := (hg.below hA2).step (b2 := wr.heap.size + 1) (c := 1) (us := verCells V A5 c5) (hp.below hA2) (by omega) hh (Nat.le_refl _) (by omega) (by rw [HN.out]; exact hlt) hV ⟨wf0, wf1, wf2⟩ rfl (fun x u hu => qS.at hu) (by simp [verCells, Value.oneCell'])
        (fun x hx => by obtain ⟨u, e1, e2⟩ := verCells_lie q5 wf0 wf1 wf2 wf3 wf4 wf6 wf7 wf8 x hx; exact ⟨u, e1, e2.below hA2⟩) (by omega) 130
      obtain ⟨v0, hv0⟩ : ∃ v0, F V.f0 = v0 := ⟨_, rfl⟩
      rw [hv0] at r1 r2
      have hbf := hb.trans ((hA2.mono hbs).trans hb3)
      have y0 : (wr.alloc O).cell? ⟨wr.heap.size, 0, none⟩ = some (.int .i64 V.f0.f0) := qB.at rfl
      have y1 : (wr.alloc O).cell? ⟨wr.heap.size, 1, none⟩ = some (.int .i64 V.f0.f1) := qB.at rfl
      have y2 : (wr.alloc O).cell? ⟨wr.heap.size, 2, none⟩ = some (.int .i64 V.f0.f2) := qB.at rfl
      have y3 : (wr.alloc O).cell? ⟨wr.heap.size, 3, none⟩ = some (.int .i64 V.f1) := qB.at rfl
      have y4 : (wr.alloc O).cell? ⟨wr.heap.size, 4, none⟩ = some (.int .i64 V.f2.f0) := qB.at rfl
      have y5 : (wr.alloc O).cell? ⟨wr.heap.size, 5, none⟩ = some (.slice A5 V.f2.f1.length c5) := qB.at rfl
      have y6 : (wr.alloc O).cell? ⟨wr.heap.size, 6, none⟩ = some (.int .i64 V.f2.f2.f0) := qB.at rfl
      have y7 : (wr.alloc O).cell? ⟨wr.heap.size, 7, none⟩ = some (.int .i64 V.f2.f2.f1) := qB.at rfl
      have y8 : (wr.alloc O).cell? ⟨wr.heap.size, 8, none⟩ = some (.int .i64 V.f2.f2.f2) := qB.at rfl
      subst hO
      simp only [vA, verCells] at r1 y0 y1 y2 y3 y4 y5 y6 y7 y8
      obtain ⟨c0, c1, c2, c3, c4, c5', c6, c7, c8⟩ := hc
      clear hV hv0 hp hg hA2 qB qS q5 wf0 wf1 wf2 wf3 wf4 wf6 wf7 wf8 hb3
      have r2 := Lib.hid r2
      go_wp2_with (at_builtin; refine Lib.wpList_append_run _ rfl _ _ _ _ rfl _ _ rfl rfl _ _ r2.out ?_)
      go_roundw
      case rel => exact ⟨j + 1, F', by omega, by go_num, hp3, hg3, hbf⟩
      case measure => simp [Go.RowKit.intOf]; omega
    · have hd : decide ((j : Int) < (n : Int)) = false := by simp; omega
      obtain rfl : j = n := by omega
      go_wp2
      go_ret
      exact ⟨F, rfl, hp, hg, hb⟩
end Go.Proofs.Ytagnhfalmefbhaa.Sites
