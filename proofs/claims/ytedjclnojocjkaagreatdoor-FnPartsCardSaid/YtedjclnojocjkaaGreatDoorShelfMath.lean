/-
  A map of parts by their digests, as a list in the order of the digests; what a put and a delete make of it.
  Conditions: none; nothing of the program stands here.
-/
import Derived.Test.YtedjclnojocjkaaGreatDoorLays
import Derived.Maps.OwnSet
import Derived.Maps.Views
import Derived.Lib.SlKeysI
namespace Go.Proofs.YtedjclnojocjkaaGreatDoor.Parts
open Go Go.RowKit Go.Proofs.YtedjclnojocjkaaGreatDoor.Mem Go.Maps Go.Sort

abbrev Item := Prt × Body
/-- A part by value. -/
def pv (x : Item) : Value := .agg #[.int .i64 x.1.d, .int .i64 x.1.k, .slice x.2.1 x.1.zs.length x.2.2, .int .i64 x.1.h, .int .i64 x.1.p, .int .i64 x.1.q, .int .i64 x.1.u]
def anyR (v : Value) : Option (DataW Value × List MemPlace) := some (.held v, [])
def key (k : Int) : Lit := .int .i64 k
/-- The first item with this digest. -/
def lk (k : Int) : List Item → Option Item
  | [] => none
  | x :: m => if x.1.d = k then some x else lk k m
def Dict (D : DataW Value) (m : List Item) : Prop := ∀ k, has D (key k) = (lk k m).isSome ∧ ∀ z, D.atKey (key k) z = (match lk k m with | some x => DataW.held (pv x) | none => z)
theorem key_ne {a b : Int} (h : a ≠ b) : key a ≠ key b := fun e => h (by injection e)
theorem key_lit (k : Int) : WideAt.IsKeyLit (key k) := trivial
theorem Dict.nil : Dict (.map []) [] := fun _ => ⟨rfl, fun _ => rfl⟩
theorem Dict.put {D : DataW Value} {m m' : List Item} {x : Item} (h : Dict D m) (hD : IsMap D) (hm : ∀ k, lk k m' = if k = x.1.d then some x else lk k m) : Dict (D.put (key x.1.d) (.held (pv x))) m' := by
  intro k
  rw [hm k]
  by_cases hk : k = x.1.d
  · subst hk
    rw [if_pos rfl]
    exact ⟨has_put_same hD (key_lit _) _, fun z => atKey_put_same hD (key_lit _) _ z⟩
  · rw [if_neg hk]
    exact ⟨(has_put_other (key_ne hk) _).trans (h k).1, fun z => (atKey_put_other (key_ne hk) _ z).trans ((h k).2 z)⟩
theorem Dict.del {D : DataW Value} {m m' : List Item} {d : Int} (h : Dict D m) (hm : ∀ k, lk k m' = if k = d then none else lk k m) : Dict (D.del (key d)) m' := by
  intro k
  rw [hm k]
  by_cases hk : k = d
  · subst hk
    rw [if_pos rfl]
    exact ⟨has_del_same, fun z => atKey_del_same z⟩
  · rw [if_neg hk]
    exact ⟨(has_del_other (key_ne hk)).trans (h k).1, fun z => (atKey_del_other (key_ne hk) z).trans ((h k).2 z)⟩
theorem lk_append (k : Int) : ∀ (m : List Item) (x : Item), lk x.1.d m = none → lk k (m ++ [x]) = if k = x.1.d then some x else lk k m
  | [], x, _ => by
    simp only [List.nil_append, lk]
    by_cases h : x.1.d = k
    · rw [if_pos h, if_pos h.symm]
    · rw [if_neg h, if_neg (fun e => h e.symm)]
  | y :: m, x, h => by
    simp only [lk] at h
    split at h
    · cases h
    · rename_i hne
      simp only [List.cons_append, lk]
      rw [lk_append k m x h]
      by_cases hy : y.1.d = k
      · rw [if_pos hy, if_pos hy, if_neg (fun e => hne (by rw [← e, hy]))]
      · rw [if_neg hy, if_neg hy]
theorem lk_none {k : Int} : ∀ {m : List Item}, lk k m = none ↔ ∀ x ∈ m, x.1.d ≠ k
  | [] => by simp [lk]
  | y :: m => by
    simp only [lk]
    by_cases hy : y.1.d = k
    · simp [hy]
    · rw [if_neg hy, lk_none]; simp [hy]
theorem lk_some {k : Int} : ∀ {m : List Item} {x : Item}, lk k m = some x → x ∈ m ∧ x.1.d = k
  | [], x, h => by simp [lk] at h
  | y :: m, x, h => by
    simp only [lk] at h
    split at h
    · rename_i he
      injection h with h
      subst h
      exact ⟨by simp, he⟩
    · have := lk_some h
      exact ⟨by simp [this.1], this.2⟩
theorem lk_isSome {k : Int} {m : List Item} : (lk k m).isSome = true ↔ k ∈ m.map (·.1.d) := by
  cases h : lk k m with
  | none =>
    simp only [Option.isSome_none, Bool.false_eq_true, false_iff, List.mem_map]
    rintro ⟨x, hx, he⟩
    exact lk_none.1 h x hx he
  | some x =>
    obtain ⟨h1, h2⟩ := lk_some h
    simp only [Option.isSome_some, true_iff, List.mem_map]
    exact ⟨x, h1, h2⟩

/-- In the order of the digests. -/
def Rising (m : List Item) : Prop := m.Pairwise (fun x y => x.1.d < y.1.d)
theorem Rising.nodup {m : List Item} (h : Rising m) : (m.map (·.1.d)).Nodup := List.pairwise_map.2 (h.imp fun h e => by omega)
theorem Rising.keys {m : List Item} (h : Rising m) {D : DataW Value} {P : Program} {k : TypeId} {w : World} {b n : Nat} (hD : Dict D m) (hk : P.underlying k = some (.int .i64)) (ho : w.ownsMap P k anyR b n D) {ss : List Int} (hs : ss.Perm (intKeys D)) :
    ss.mergeSort leI = m.map (·.1.d) := by
  obtain ⟨es, rfl, hko⟩ := ho.keysOf
  obtain ⟨es', e, hpw⟩ := ho.tidy (int_keyed hk)
  injection e with e
  subst e
  have hp : (m.map (·.1.d)).Perm (intKeys (.map es)) := perm_intKeys hpw (fun p hp => by obtain ⟨v, hv⟩ := hko p hp; obtain ⟨x, _, hx, _⟩ := Maps.keyOf_i64 hk hv; exact ⟨x, hx⟩) h.nodup (fun x => by rw [← lk_isSome, ← (hD x).1]; rfl)
  rw [mergeSort_of_perm_i (hs.trans hp.symm)]
  refine List.mergeSort_of_pairwise ?_
  refine List.pairwise_map.2 (List.Pairwise.imp (fun hxy => ?_) h)
  simp only [leI, decide_eq_true_eq]
  omega

/-- A digest is taken once: its part has one use less, and is left out when it has none. -/
def dec (P : Prt) : Prt := { P with u := P.u - 1 }
def dec1 (d : Int) (P : Prt) : Prt := if P.d = d then dec P else P
def td (d : Int) : List Prt → List Prt
  | [] => []
  | P :: l => if 0 < (dec1 d P).u then dec1 d P :: td d l else td d l
def tdI (d : Int) : List Item → List Item
  | [] => []
  | x :: m => if 0 < (dec1 d x.1).u then (dec1 d x.1, x.2) :: tdI d m else tdI d m
theorem tdI_fst (d : Int) : ∀ m, (tdI d m).map (·.1) = td d (m.map (·.1))
  | [] => rfl
  | x :: m => by
    simp only [tdI, td, List.map_cons]
    split <;> simp [tdI_fst d m]
theorem dec1_d (d : Int) (P : Prt) : (dec1 d P).d = P.d := by unfold dec1; split <;> rfl
theorem td_mem {d : Int} : ∀ {l : List Prt} {P : Prt}, P ∈ td d l → ∃ Q ∈ l, P = dec1 d Q ∧ 0 < P.u
  | [], P, h => by simp [td] at h
  | Q :: l, P, h => by
    simp only [td] at h
    split at h
    · rename_i hu
      rcases List.mem_cons.1 h with rfl | h
      · exact ⟨Q, by simp, rfl, hu⟩
      · obtain ⟨Q', h1, h2⟩ := td_mem h; exact ⟨Q', by simp [h1], h2⟩
    · obtain ⟨Q', h1, h2⟩ := td_mem h; exact ⟨Q', by simp [h1], h2⟩
theorem td_len (d : Int) : ∀ l, (td d l).length ≤ l.length
  | [] => Nat.le_refl _
  | P :: l => by
    simp only [td]
    have := td_len d l
    split <;> simp <;> omega
theorem td_rising (d : Int) : ∀ {l : List Prt}, l.Pairwise (fun P Q => P.d < Q.d) → (td d l).Pairwise (fun P Q => P.d < Q.d)
  | [], _ => List.Pairwise.nil
  | P :: l, h => by
    have h2 := td_rising d (List.pairwise_cons.1 h).2
    simp only [td]
    split
    · refine List.pairwise_cons.2 ⟨fun Q hQ => ?_, h2⟩
      obtain ⟨Q', h3, rfl, _⟩ := td_mem hQ
      rw [dec1_d, dec1_d]
      exact (List.pairwise_cons.1 h).1 Q' h3
    · exact h2
/-- What is read of the shelf behind a take. -/
theorem lk_tdI {d : Int} : ∀ {m : List Item}, Rising m → (∀ x ∈ m, 1 ≤ x.1.u) → ∀ k, lk k (tdI d m) = if k = d then (match lk d m with | some x => if 0 < x.1.u - 1 then some (dec x.1, x.2) else none | none => none) else lk k m
  | [], _, _, k => by simp [tdI, lk]
  | x :: m, h, hu, k => by
    have hr := List.pairwise_cons.1 h
    have ih := lk_tdI (d := d) hr.2 (fun y hy => hu y (by simp [hy])) k
    have hx := hu x (by simp)
    by_cases hd : x.1.d = d
    · have hno : lk d m = none := lk_none.2 fun y hy e => by have := hr.1 y hy; omega
      have e1 : dec1 d x.1 = dec x.1 := by simp [dec1, hd]
      simp only [tdI, e1]
      rw [hno] at ih
      simp only [lk, hd, if_true]
      by_cases h0 : 0 < (dec x.1).u
      · rw [if_pos h0, if_pos (show 0 < x.1.u - 1 from h0)]
        simp only [lk]
        by_cases hk : k = d
        · rw [if_pos hk, if_pos (by show x.1.d = k; omega)]
        · rw [if_neg hk, if_neg (show ¬ (dec x.1).d = k by show ¬ x.1.d = k; omega), if_neg (show ¬ d = k by omega), ih, if_neg hk]
      · rw [if_neg h0, if_neg (show ¬ 0 < x.1.u - 1 from h0), ih]
        by_cases hk : k = d
        · rw [if_pos hk, if_pos hk]
        · rw [if_neg hk, if_neg hk, if_neg (show ¬ d = k by omega)]
    · have e1 : dec1 d x.1 = x.1 := by simp [dec1, hd]
      simp only [tdI, e1]
      rw [if_pos (by omega)]
      simp only [lk]
      rw [ih, if_neg hd]
      by_cases hk : x.1.d = k
      · rw [if_pos hk, if_pos hk, if_neg (show ¬ k = d by omega)]
      · rw [if_neg hk, if_neg hk]
end Go.Proofs.YtedjclnojocjkaaGreatDoor.Parts
