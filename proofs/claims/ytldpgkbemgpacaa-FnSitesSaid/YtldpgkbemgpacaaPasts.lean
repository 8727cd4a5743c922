/-
  The program's map from addresses to their versions: asked, entered, written.
  Conditions: the addresses are of Go's integers.
-/
import Derived.Test.YtldpgkbemgpacaaPastMath
import Derived.Test.YtldpgkbemgpacaaDatBuf
import Derived.WideKeyEntry
import Derived.DeepKeys4
import Derived.Maps.OwnSet
import Derived.Maps.Views
namespace Go.Proofs.Ytldpgkbemgpacaa.Sites
open Go Go.RowKit Go.Proofs.Ytldpgkbemgpacaa.Mem Go.Proofs.Ytldpgkbemgpacaa.Gen Go.Proofs.Ytldpgkbemgpacaa.Adr Go.Proofs.Ytldpgkbemgpacaa.Res
open Go.Maps (IsMap atKey_put_same atKey_put_other)

set_option maxHeartbeats 1000000 in
theorem key_gen {P : Program} {k i n : Nat} {f0 f1 f2 : Field} (hs : P.types.size = n + 1) (hk : P.underlying k = some (.struct #[f0, f1, f2])) (hi : P.underlying i = some (.int .i64)) (t0 : f0.type = i) (t1 : f1.type = i) (t2 : f2.type = i) (o0 : f0.offset = 0) (o1 : f1.offset = 1) (o2 : f2.offset = 2) (n0 : (f0.name != "_") = true) (n1 : (f1.name != "_") = true) (n2 : (f2.name != "_") = true)
    (k1 : P.keyType k = true) (k2 : P.cellsOf k = 3) (k3 : P.cellsOf i = 1) {a b c : Int} (ha : (Lit.int .i64 a).wf = true) (hb : (Lit.int .i64 b).wf = true) (hc : (Lit.int .i64 c).wf = true) : ∃ s, keyOf P k (.agg #[.int .i64 a, .int .i64 b, .int .i64 c]) = some s := by
  simp [keyOf, hk, k1, Value.formed, k2, hs, Program.keyLits, k3, hi, Value.cells, ha, hb, hc, t0, t1, t2, o0, o1, o2, n0, n1, n2]
set_option maxRecDepth 100000 in
theorem laidOut : laidOutB Try.prog = true := by kernel_rfl
theorem rowA : (26 : TypeId) < Try.prog.types.size := of_decide_eq_true (by kernel_rfl)
theorem wideA : (match Try.prog.underlying 26 with | some (.array _ _) | some (.struct _) => true | _ => false) = true := by rw [Try.underlying26]
theorem typeA : Try.prog.keyTypeAt 2 26 = true := by kernel_rfl
theorem typeA' : Try.prog.keyType 26 = true := by kernel_rfl
set_option maxRecDepth 100000 in
theorem law_A : Go.WideMaps.KeyLaw Try.prog 26 := deep_law_laid laidOut (m := 2) (by omega) rowA typeA wideA
theorem keyed_A : Go.Maps.Keyed Try.prog 26 := Go.Maps.Keyed.of_law law_A
def vA (A : TAddress) : Value := .agg #[.int .i64 A.f0, .int .i64 A.f1, .int .i64 A.f2]
def WfA (A : TAddress) : Prop := (Lit.int .i64 A.f0).wf = true ∧ (Lit.int .i64 A.f1).wf = true ∧ (Lit.int .i64 A.f2).wf = true
noncomputable def kA (A : TAddress) : Lit := (keyOf Try.prog 26 (vA A)).getD (.string [])
theorem size_ex {P : Program} {k : Nat} (h : k < P.types.size) : ∃ n, P.types.size = n + 1 := ⟨P.types.size - 1, by omega⟩
theorem cellsA : Try.prog.cellsOf 26 = 3 := by kernel_rfl
theorem cellsI : Try.prog.cellsOf 3 = 1 := by kernel_rfl
theorem key_ex {A : TAddress} (h : WfA A) : ∃ k, keyOf Try.prog 26 (vA A) = some k := by
  obtain ⟨n, hn⟩ := size_ex rowA
  exact key_gen hn Try.underlying26 Try.underlying3 rfl rfl rfl rfl rfl rfl rfl rfl rfl typeA' cellsA cellsI h.1 h.2.1 h.2.2
theorem key_A {A : TAddress} (h : WfA A) : keyOf Try.prog 26 (vA A) = some (kA A) := by
  obtain ⟨k, hk⟩ := key_ex h
  unfold kA
  rw [hk]
  rfl
theorem vA_inj {A B : TAddress} (h : vA A = vA B) : A = B := by
  obtain ⟨a0, a1, a2⟩ := A
  obtain ⟨b0, b1, b2⟩ := B
  simpa [vA] using h
theorem kA_inj {A B : TAddress} (hA : WfA A) (hB : WfA B) (e : kA A = kA B) : A = B := vA_inj (keyed_A.inj (key_A hA) (by rw [e]; exact key_A hB))

def anyR (v : Value) : Option (DataW Value × List MemPlace) := some (.held v, [])
theorem anyR_mk (v : Value) : anyR v = some (.held v, []) := rfl
theorem anyR_inv {v u : Value} {ps : List MemPlace} (h : anyR v = some (.held u, ps)) : v = u := by
  unfold anyR at h
  injection h with h
  injection h with h _
  injection h
theorem zero_past (w : World) : (zeroValue 61).run Try.prog w = .ok (.slice none 0 0) w := by kernel_rfl
def Dict (D : DataW Value) (F : TAddress → Value) : Prop := ∀ A, WfA A → D.atKey (kA A) (.held (.slice none 0 0)) = .held (F A)
/-- Block b holds a map that reads as F: a nil slice where nothing stands. -/
def Pasts (b n : Nat) (w : World) (F : TAddress → Value) : Prop := ∃ D : DataW Value, w.ownsMap Try.prog 26 anyR b n D ∧ Dict D F
theorem Pasts.keep {b n : Nat} {w w' : World} {F : TAddress → Value} (h : Pasts b n w F) (hb : w'.heap[b]? = w.heap[b]?) : Pasts b n w' F := by
  obtain ⟨D, ⟨es, clock, h1, h2⟩, h3⟩ := h
  exact ⟨D, ⟨es, clock, hb.trans h1, h2⟩, h3⟩
theorem Pasts.lt {b n : Nat} {w : World} {F : TAddress → Value} (h : Pasts b n w F) : b < w.heap.size := by
  obtain ⟨D, h1, _⟩ := h
  exact h1.lt
theorem Pasts.below {b n : Nat} {w w' : World} {F : TAddress → Value} (h : Pasts b n w F) (hb : Below w.heap.size w w') : Pasts b n w' F := h.keep (hb.block _ h.lt)
theorem Pasts.drewN {b n : Nat} {w : World} {F : TAddress → Value} (h : Pasts b n w F) (m : Nat) : Pasts b n (w.drewN m) F := h
theorem Pasts.isMap {b n : Nat} {w : World} {F : TAddress → Value} (h : Pasts b n w F) : ∃ es clock, w.heap[b]? = some (.map es clock) := by
  obtain ⟨D, ⟨es, clock, h1, _⟩, _⟩ := h
  exact ⟨es, clock, h1⟩
theorem Pasts.made (w : World) : Pasts w.heap.size 0 (w.alloc (.map #[] 0)) (fun _ => .slice none 0 0) := ⟨_, World.ownsMap_made w _ _ _, fun _ _ => rfl⟩
/-- What stands under an address. -/
theorem Pasts.look {b n : Nat} {w : World} {F : TAddress → Value} (h : Pasts b n w F) {A : TAddress} (hA : WfA A) :
    (Instr.lookup 62 (.map (some b)) (vA A) false).run Try.prog w = .ok (F A) w := by
  obtain ⟨D, h1, h2⟩ := h
  obtain ⟨v, ps, hr, hv⟩ := h1.lookup keyed_A Try.underlying62 (zero_past w) (anyR_mk _) (key_A hA)
  rw [h2 A hA] at hv
  rw [hr, anyR_inv hv]
/-- Nothing but block b has changed. -/
structure Only (b : Nat) (w w' : World) : Prop where
  os : w'.os = w.os
  tape : w'.tape = w.tape
  output : w'.output = w.output
  size : w'.heap.size = w.heap.size
  block : ∀ i, i ≠ b → w'.heap[i]? = w.heap[i]?
theorem Only.below {b B : Nat} {w w' : World} (h : Only b w w') (hB : B ≤ b) : Below B w w' := ⟨h.os, h.tape, h.output, Nat.le_of_eq h.size.symm, fun i hi => h.block i (by omega)⟩
theorem only_set {b : Nat} {w : World} {es : Array MapEntry} {clock : Nat} (hb : w.heap[b]? = some (.map es clock)) (o : Obj) : Only b w (Go.ChangeMaps.setBlock w b o) :=
  ⟨rfl, rfl, rfl, by simp [Go.ChangeMaps.setBlock], fun i hi => Go.ChangeMaps.heap_setBlock_other hb _ hi⟩
def upd (F : TAddress → Value) (A : TAddress) (v : Value) : TAddress → Value := fun B => if sameA B A = true then v else F B
theorem upd_same (F : TAddress → Value) (A : TAddress) (v : Value) : upd F A v A = v := by unfold upd; rw [if_pos (sameA_iff.2 rfl)]
theorem upd_other {F : TAddress → Value} {A B : TAddress} {v : Value} (h : B ≠ A) : upd F A v B = F B := by unfold upd; rw [if_neg (fun e => h (sameA_iff.1 e))]
set_option maxHeartbeats 1000000 in
set_option maxRecDepth 100000 in
/-- An entry is taken up, and written later. -/
theorem Pasts.entry {b n : Nat} {w : World} {F : TAddress → Value} (h : Pasts b n w F) (hn : n ≤ 1048576) {A : TAddress} (hA : WfA A) :
    ∃ (st : Nat) (w1 : World), (Instr.mapEntry 62 (.map (some b)) (vA A)).run Try.prog w = .ok (.tuple #[F A, .int .i64 st]) w1 ∧ Only b w w1 ∧ (∃ es clock, w1.heap[b]? = some (.map es clock)) ∧
      ∀ w2 v, w2.heap[b]? = w1.heap[b]? → ∃ w3, (Instr.entryStore 62 (.map (some b)) (.int .i64 st) v).run Try.prog w2 = .ok () w3 ∧ Only b w2 w3 ∧ Pasts b (n + 1) w3 (upd F A v) := by
  obtain ⟨D, h1, h2⟩ := h
  have hD := h1.isMap
  obtain ⟨es, clock, hb, Ft, hs, rfl⟩ := id h1
  obtain ⟨v0, st, es1, clock1, hrun, hv0, hst⟩ := Go.WideElems.entry_then_store law_A Try.underlying62 zero_past hb Ft (key_A hA)
  have e0 : v0 = F A := by
    have hat := h2 A hA
    rcases Go.Maps.fit_look false keyed_A Try.underlying62 (zero_past w) hb Ft (key_A hA) with ⟨_, hno, hz⟩ | ⟨e1, y, hm1, hk1, _, hR, hz, _⟩
    · rw [hz] at hat
      rcases hv0 with ⟨e2, hm2, hk2, _⟩ | ⟨_, e⟩
      · exact absurd hk2 (hno e2 hm2)
      · rw [e]; injection hat
    · rw [hz] at hat
      rcases hv0 with ⟨e2, hm2, hk2, e⟩ | ⟨hno, _⟩
      · have hpw := ((Go.MapKept.stamped_iff es clock).1 Ft.stamped).2.2
        have : e1 = e2 := by
          obtain ⟨i, hi, rfl⟩ := List.getElem_of_mem hm1
          obtain ⟨k, hk, rfl⟩ := List.getElem_of_mem hm2
          rcases Nat.lt_trichotomy i k with g | g | g
          · exact absurd (hk1.trans hk2.symm) ((List.pairwise_iff_getElem.1 hpw) i k hi hk g)
          · subst g; rfl
          · exact absurd (hk2.trans hk1.symm) ((List.pairwise_iff_getElem.1 hpw) k i hk hi g)
        subst this
        obtain ⟨y1, y2⟩ := y
        simp only at hat
        rw [hat] at hR
        rw [e, anyR_inv hR]
      · exact absurd hk1 (hno e1 hm1)
  subst e0
  refine ⟨st, _, hrun, only_set hb _, ⟨es1, clock1, Go.ChangeMaps.heap_setBlock_same hb _⟩, fun w2 v hw2 => ?_⟩
  rw [Go.ChangeMaps.heap_setBlock_same hb] at hw2
  obtain ⟨es', clock', hr3, hru⟩ := hst w2 v hw2
  obtain ⟨w', hr', h3, _⟩ := h1.store keyed_A Try.underlying62 (by unfold maxLen; omega) (key_A hA) (anyR_mk v)
  rw [hru] at hr'
  injection hr' with _ hw'
  subst hw'
  obtain ⟨es3, clock3, hb3, hrest⟩ := h3
  rw [Go.ChangeMaps.heap_setBlock_same hb] at hb3
  refine ⟨_, hr3, only_set hw2 _, ⟨_, ⟨es3, clock3, (Go.ChangeMaps.heap_setBlock_same hw2 _).trans hb3, hrest⟩, fun B hB => ?_⟩⟩
  by_cases hBA : B = A
  · subst hBA
    rw [upd_same]
    exact atKey_put_same hD (keyed_A.key (key_A hB)) _ _
  · rw [upd_other hBA]
    exact (atKey_put_other (fun e => hBA (kA_inj hB hA e)) _ _).trans (h2 B hB)
end Go.Proofs.Ytldpgkbemgpacaa.Sites
