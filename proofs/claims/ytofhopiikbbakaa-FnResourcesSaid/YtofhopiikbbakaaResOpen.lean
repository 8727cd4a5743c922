/-
  ResourceText of the program at a drawn resource, whatever the library's table of powers of ten holds: some letters where the resource is valid, none where it is not.
  Conditions: each number of the body is below 100 or from 255 on; the table's third place holds some number.
-/
import Derived.Test.YtofhopiikbbakaaResTexts
import Derived.Test.YtofhopiikbbakaaAdrOpen
import Derived.Test.YtofhopiikbbakaaDrawRes
namespace Go.Proofs.Ytofhopiikbbakaa.Res
open Go Go.RowKit Go.Lib Go.Proofs.Ytofhopiikbbakaa.Mem Go.Proofs.Ytofhopiikbbakaa.Adr Go.Proofs.Ytofhopiikbbakaa.Range Go.Proofs.Ytofhopiikbbakaa.Fmo

def txo (x z : Int) : ByteArray := if z = 255 then t255 x else ⟨(Lib.itoa z).toArray⟩
theorem prints_open {x z : Int} {w : World} (h : At2 x w) (h0 : 0 ≤ z) (h1 : z < 100 ∨ z = 255) : Prints (txo x) z w := by
  intro W hW
  unfold txo
  by_cases h2 : z = 255
  · subst h2; rw [if_pos rfl]; exact fmt_255 x W (h.on hW)
  · rw [if_neg h2]; exact fmt_small z W h0 (by omega)
theorem txo_len (x z : Int) (h0 : 0 ≤ z) (h1 : z ≤ 255) : (txo x z).data.toList.length ≤ 20 := by
  unfold txo
  by_cases h2 : z = 255
  · rw [if_pos h2]; unfold t255; by_cases h3 : x ≤ 255
    · rw [if_pos h3]; decide
    · rw [if_neg h3]; decide
  · rw [if_neg h2]; simpa using Fmt.itoa_len z (by omega) (by omega)
theorem lens_le {m : Nat} : ∀ {l : List (List UInt8)}, (∀ x ∈ l, x.length ≤ m) → Lib.lens l ≤ m * l.length
  | [], _ => by simp [Lib.lens]
  | y :: l, h => by
    have h1 := h y (by simp)
    have h2 := lens_le (l := l) (fun x hx => h x (by simp [hx]))
    simp [Lib.lens] at h2 ⊢
    rw [Nat.mul_add]
    omega
theorem joined_le {m : Nat} {y : ByteArray} {r : List ByteArray} (h : ∀ x ∈ y :: r, x.data.toList.length ≤ m) : (joined (y :: r)).length ≤ r.length + m * (r.length + 1) := by
  unfold joined
  rw [List.map_cons, Lib.join_length]
  have := lens_le (m := m) (l := y.data.toList :: r.map (·.data.toList)) (by
    intro x hx
    rw [← List.map_cons (f := fun (b : ByteArray) => b.data.toList)] at hx
    obtain ⟨b, hb, rfl⟩ := List.mem_map.1 hx
    exact h b hb)
  simp at this ⊢
  omega
theorem joined_ne {y : ByteArray} {r : List ByteArray} (h : y.data.toList ≠ []) : (⟨(joined (y :: r)).toArray⟩ : ByteArray) ≠ ⟨#[]⟩ := by
  intro e
  have e2 : (joined (y :: r)).toArray = #[] := congrArg ByteArray.data e
  have e3 : joined (y :: r) = [] := by simpa using congrArg Array.toList e2
  unfold joined at e3
  rw [List.map_cons, Lib.join_cons] at e3
  exact h (List.append_eq_nil_iff.1 e3).1
theorem ne_toList {s : ByteArray} (h : s ≠ ⟨#[]⟩) : s.toList.isEmpty = false := by
  rw [ByteArray.toList_eq]
  cases e : s.data.toList with
  | nil => exact absurd (by apply ByteArray.ext; simpa using e) h
  | cons y l => rfl
theorem nm_ne (k : Int) : (nm k).data.toList ≠ [] := by
  unfold nm
  split
  · decide
  · split
    · decide
    · split <;> decide
theorem nm_len (k : Int) : (nm k).data.toList.length ≤ 4 := by
  unfold nm
  split
  · decide
  · split
    · decide
    · split <;> decide

/-- Some letters where the resource is valid, none where it is not. -/
def Spoken (b : Bool) (w : World) (e : Ending) (w' : World) : Prop := ∃ s : ByteArray, e = .returned (.string s) ∧ (b = true → s ≠ ⟨#[]⟩) ∧ (b = false → s = ⟨#[]⟩) ∧ Below w.heap.size w w'
theorem spoken_yes {P : Program} {f : Nat} {args : Array Value} {w : World} {y : ByteArray} {r : List ByteArray} (h : y.data.toList ≠ [])
    (hc : Calls P f args w fun e w' => e = .returned (.string ⟨(joined (y :: r)).toArray⟩) ∧ Below w.heap.size w w') : Calls P f args w (Spoken true w) :=
  hc.mono fun e w' ⟨he, hb⟩ => ⟨_, he, fun _ => joined_ne h, (fun e => by cases e), hb⟩
theorem spoken_no {P : Program} {f : Nat} {args : Array Value} {w : World}
    (hc : Calls P f args w fun e w' => e = .returned (.string ⟨#[]⟩) ∧ Below w.heap.size w w') : Calls P f args w (Spoken false w) :=
  hc.mono fun e w' ⟨he, hb⟩ => ⟨_, he, (fun e => by cases e), fun _ => rfl, hb⟩

theorem text_open (x : Int) (lo hi : Nat) (k h p q : Int) (w : World) (a : Option Addr) (n c : Nat) (zs : List Int) (hr : Row .i64 lo hi w a n zs) (hn : n ≤ 1048576) (hg : Draw.Good zs) (hx : At2 x w) :
    Calls Try.prog 11 #[(Value.agg #[Value.int IntKind.i64 (k), Value.slice (a) (n) (c), Value.int IntKind.i64 (h), Value.int IntKind.i64 (p), Value.int IntKind.i64 (q)])] w (Spoken (okR k h p q n zs) w) := by
  by_cases h12 : k = 1 ∨ k = 2
  · rw [okR_content h12]
    cases hb : (decide (n ≤ 6) && (allB zs && zero3 h p q))
    · exact spoken_no (text_content_no (txo x) ⟨#[]⟩ lo hi k h p q w a n c zs hr hn h12 hb)
    · have h6 : n ≤ 6 := by simp at hb; exact hb.1
      have hB : ∀ z ∈ zs, 0 ≤ z ∧ z ≤ 255 := by
        have hB0 : allB zs = true := by simp at hb; exact hb.2.1
        intro z hz
        have := List.all_eq_true.1 hB0 z hz
        simpa [inB] using this
      refine spoken_yes (nm_ne k) (text_content_yes (txo x) ⟨#[]⟩ lo hi k h p q w a n c zs hr hn h12 hb (fun z hz => prints_open hx (hB z hz).1 (by have := hg z hz; have := hB z hz; omega)) ?_)
      have hl := joined_le (m := 20) (y := nm k) (r := zs.map (txo x)) (by
        intro y hy
        rcases List.mem_cons.1 hy with rfl | hy
        · have := nm_len k; omega
        · obtain ⟨z, hz, rfl⟩ := List.mem_map.1 hy
          exact txo_len x z (hB z hz).1 (hB z hz).2)
      have hzl := hr.len
      simp at hl
      omega
  · by_cases h3 : k = 3
    · subst h3
      rw [okR_move]
      cases hb : (decide (n = 0) && okA h p q)
      · exact spoken_no (text_move_no (txo x) ⟨#[]⟩ lo hi h p q w a n c zs hr hn hb)
      · have hA : okA h p q = true := by simp at hb; exact hb.2
        refine spoken_yes (nm_ne 3) (text_move_yes (txo x) ⟨(body h p q).toArray⟩ lo hi h p q w a n c zs hr hn hb (fun W _ => text_small h p q W hA) ?_)
        have hl := joined_le (m := 62) (y := nm 3) (r := [⟨(body h p q).toArray⟩]) (by
          intro y hy
          simp at hy
          rcases hy with rfl | rfl
          · have := nm_len 3; omega
          · have := atext_len h p q
            rw [atext_ok hA] at this
            simpa using this)
        simp at hl
        omega
    · by_cases h4 : k = 4
      · subst h4
        rw [okR_none]
        cases hb : (decide (n = 0) && zero3 h p q)
        · exact spoken_no (text_absence_no (txo x) ⟨#[]⟩ lo hi h p q w a n c zs hr hn hb)
        · refine spoken_yes (nm_ne 4) (text_absence_yes (txo x) ⟨#[]⟩ lo hi h p q w a n c zs hr hn hb ?_)
          have hl := joined_le (m := 4) (y := nm 4) (r := []) (by intro y hy; simp at hy; subst hy; exact nm_len 4)
          simp at hl
          omega
      · rw [show okR k h p q n zs = false by unfold okR; rw [if_neg h12, if_neg h3, if_neg h4]]
        exact spoken_no (text_stray k h p q w a n c h12 h3 h4)
end Go.Proofs.Ytofhopiikbbakaa.Res
