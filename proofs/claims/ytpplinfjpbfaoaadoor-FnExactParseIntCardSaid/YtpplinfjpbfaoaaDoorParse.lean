/-
  The program's ParseInt finds the number from 0 to 1000000000000 whose numeral the text is, or tells that there is none.
  Conditions: the text takes no more than 2^48 bytes; the library's table of powers of ten and its two errors are as their initialisers lay them.
-/
import Derived.Test.YtpplinfjpbfaoaaDoorFmt
import Derived.Test.YtpplinfjpbfaoaaDoorParseSpec
import Derived.Test.YtpplinfjpbfaoaaDoorShelfAtoi
import Derived.Lib.AtoiAllCases
import Derived.Lib.AtoiErrMem
import Derived.WalkSpells
namespace Go.Proofs.YtpplinfjpbfaoaaDoor.Fmt
open Go Go.RowKit

/-- The library's two errors hold each some error. -/
def Errs (w : World) : Prop := (∃ t v, w.cell? ⟨0, 0, none⟩ = some (.iface t v)) ∧ (∃ t v, w.cell? ⟨1, 0, none⟩ = some (.iface t v))

theorem cell_lt {w : World} {b o : Nat} {v : Value} (h : w.cell? ⟨b, o, none⟩ = some v) : b < w.heap.size := by
  unfold World.cell? at h
  simp only at h
  cases hx : w.heap[b]? with
  | none => rw [hx] at h; simp at h
  | some x => exact (Array.getElem?_eq_some_iff.1 hx).1
theorem Errs.on {w w1 : World} (h : Errs w) (hb : Below w.heap.size w w1) : Errs w1 := by
  obtain ⟨⟨t, v, h0⟩, ⟨t', v', h1⟩⟩ := h
  exact ⟨⟨t, v, by rw [hb.cell (p := ⟨0, 0, none⟩) (cell_lt h0)]; exact h0⟩, ⟨t', v', by rw [hb.cell (p := ⟨1, 0, none⟩) (cell_lt h1)]; exact h1⟩⟩

set_option maxRecDepth 100000 in
theorem read_ok (s : ByteArray) (w : World) (hs : s.size ≤ 281474976710656) (v : Int) (h : Lib.atoiAll s.data.toList = .ok v) :
    Calls Tryd.prog 19 #[.string s] w fun e w' => e = .returned (.iface 43 (.int .i64 v)) ∧ Below w.heap.size w w' := by
  go_enter Tryd.func19, Tryd.ntmps19
  go_wp2_with (go_at_call 27; refine (Tryd.strconv_Atoi_ok s (by omega) v h _).mono ?_; rintro e w' ⟨rfl, hw⟩)
  go_ret
  refine ⟨rfl, ?_⟩
  rcases hw with rfl | ⟨t, rfl⟩
  · exact Below.refl _ _
  · exact Lib.bytesWorld_below _ _ _

set_option maxRecDepth 100000 in
theorem read_no (s : ByteArray) (w : World) (hs : s.size ≤ 281474976710656) (he : Errs w) (h : ∀ v, Lib.atoiAll s.data.toList ≠ .ok v) :
    Calls Tryd.prog 19 #[.string s] w fun e w' => e = .returned (.iface 55 (.string s)) ∧ Below w.heap.size w w' := by
  obtain ⟨⟨t, v, h0⟩, ⟨t', v', h1⟩⟩ := he
  cases ha : Lib.atoiAll s.data.toList with
  | ok v => exact absurd ha (h v)
  | range =>
    clear h
    go_enter Tryd.func19, Tryd.ntmps19
    go_wp2_with (go_at_call 27; refine (Tryd.strconv_Atoi_range s hs ha _ _ h1 (Or.inr ⟨_, _, rfl⟩)).mono ?_; rintro e w1 ⟨N, rfl, -, -, hb⟩)
    go_wp2
    go_ret
    exact ⟨rfl, hb⟩
  | _ =>
    clear h
    go_enter Tryd.func19, Tryd.ntmps19
    go_wp2_with (go_at_call 27; refine (Tryd.strconv_Atoi_syntax s hs ha _ _ h0 (Or.inr ⟨_, _, rfl⟩)).mono ?_; rintro e w1 ⟨N, rfl, -, -, hb⟩)
    go_wp2
    go_ret
    exact ⟨rfl, hb⟩

theorem method_number (v : Int) (w : World) : (method 206 43 (.int .i64 v) "loop.example/g03002/impl.spelling").run Tryd.prog w = .ok (71, .int .i64 v) w := by kernel_rfl
theorem method_word (s : ByteArray) (w : World) : (method 206 55 (.string s) "loop.example/g03002/impl.spelling").run Tryd.prog w = .ok (72, .string s) w := by kernel_rfl
theorem assert_number (v : Int) (w : World) : (Instr.typeAssert (.iface 43 (.int .i64 v)) 40 43 true).run Tryd.prog w = .ok (.tuple #[.int .i64 v, .bool true]) w := by kernel_rfl
theorem assert_word (s : ByteArray) (w : World) : (Instr.typeAssert (.iface 55 (.string s)) 40 43 true).run Tryd.prog w = .ok (.tuple #[.int .i64 0, .bool false]) w := by kernel_rfl

set_option maxRecDepth 100000 in
theorem carried_yes (v : Int) (w : World) (h0 : 0 ≤ v) (h1 : v ≤ 1000000000000) :
    Calls Tryd.prog 20 #[.int .i64 v] w fun e w' => e = .returned (.tuple #[.int .i64 v, .bool true]) ∧ w = w' := by
  go_enter Tryd.func20, Tryd.ntmps20
  go_wp2
  go_ret2
  exact ⟨rfl, rfl⟩
set_option maxRecDepth 100000 in
theorem carried_no (v : Int) (w : World) (h : v < 0 ∨ 1000000000000 < v) :
    Calls Tryd.prog 20 #[.int .i64 v] w fun e w' => e = .returned (.tuple #[.int .i64 0, .bool false]) ∧ w = w' := by
  by_cases h0 : v < 0
  · go_enter Tryd.func20, Tryd.ntmps20
    go_wp2
    go_ret2
    exact ⟨rfl, rfl⟩
  · have h1 : decide (v ≤ 1000000000000) = false := by simp; omega
    have h2 : 0 ≤ v := by omega
    go_enter Tryd.func20, Tryd.ntmps20
    go_wp2
    go_ret2
    exact ⟨rfl, rfl⟩

set_option maxRecDepth 100000 in
theorem parse_walk_in (s : ByteArray) (w : World) (hs : s.size ≤ 281474976710656) (ht : Tab w) (v : Int) (h : Lib.atoiAll s.data.toList = .ok v)
    (hi : Lib.itoa v = s.data.toList) (r0 : 0 ≤ v) (r1 : v ≤ 1000000000000) :
    Calls Tryd.prog 7 #[.string s] w fun e w' => PRes s.data.toList e ∧ Below w.heap.size w w' := by
  obtain ⟨b0, b1⟩ := Lib.atoiAll_bounds h
  have hm := method_number v
  have ha := assert_number v
  have hc : (Lib.itoa v == s.toList) = true := by rw [Lib.toList_data, hi]; simp
  have hp := pnum_of_atoi hi r0 r1
  have hv : ((v.toNat : Nat) : Int) = v := by omega
  have hres := pres_yes hp
  rw [hv] at hres
  clear hv hi hp
  go_enter Tryd.func7, Tryd.ntmps7
  go_wp2_with (go_at_call 19; refine (read_ok s _ hs v h).mono ?_; rintro e w1 ⟨rfl, hb1⟩)
  have ht1 := ht.on hb1
  go_wp2_with (go_at_call 71; go_in)
  go_wp2_with (go_at_call 9; refine (fmt_any v _ b0 b1 ht1).mono ?_; rintro e w2 ⟨rfl, hb2⟩)
  have hb := hb1.trans (hb2.mono hb1.size)
  go_wp2_with (go_at_call 20; refine (carried_yes v _ r0 r1).mono ?_; rintro e w3 ⟨rfl, rfl⟩)
  go_ret2
  exact ⟨hres, hb⟩

set_option maxRecDepth 100000 in
theorem parse_walk_far (s : ByteArray) (w : World) (hs : s.size ≤ 281474976710656) (ht : Tab w) (v : Int) (h : Lib.atoiAll s.data.toList = .ok v)
    (hi : Lib.itoa v = s.data.toList) (hr : v < 0 ∨ 1000000000000 < v) :
    Calls Tryd.prog 7 #[.string s] w fun e w' => PRes s.data.toList e ∧ Below w.heap.size w w' := by
  obtain ⟨b0, b1⟩ := Lib.atoiAll_bounds h
  have hm := method_number v
  have ha := assert_number v
  have hc : (Lib.itoa v == s.toList) = true := by rw [Lib.toList_data, hi]; simp
  have hres := pres_no (pnum_none_of h (fun hx => by omega))
  clear hi
  go_enter Tryd.func7, Tryd.ntmps7
  go_wp2_with (go_at_call 19; refine (read_ok s _ hs v h).mono ?_; rintro e w1 ⟨rfl, hb1⟩)
  have ht1 := ht.on hb1
  go_wp2_with (go_at_call 71; go_in)
  go_wp2_with (go_at_call 9; refine (fmt_any v _ b0 b1 ht1).mono ?_; rintro e w2 ⟨rfl, hb2⟩)
  have hb := hb1.trans (hb2.mono hb1.size)
  go_wp2_with (go_at_call 20; refine (carried_no v _ hr).mono ?_; rintro e w3 ⟨rfl, rfl⟩)
  go_ret2
  exact ⟨hres, hb⟩

set_option maxRecDepth 100000 in
theorem parse_walk_other (s : ByteArray) (w : World) (hs : s.size ≤ 281474976710656) (ht : Tab w) (v : Int) (h : Lib.atoiAll s.data.toList = .ok v)
    (hi : Lib.itoa v ≠ s.data.toList) :
    Calls Tryd.prog 7 #[.string s] w fun e w' => PRes s.data.toList e ∧ Below w.heap.size w w' := by
  obtain ⟨b0, b1⟩ := Lib.atoiAll_bounds h
  have hm := method_number v
  have hc : (Lib.itoa v == s.toList) = false := by rw [Lib.toList_data]; simpa using hi
  have hres := pres_no (pnum_none_of h (fun hx => hi hx.1))
  clear hi
  go_enter Tryd.func7, Tryd.ntmps7
  go_wp2_with (go_at_call 19; refine (read_ok s _ hs v h).mono ?_; rintro e w1 ⟨rfl, hb1⟩)
  have ht1 := ht.on hb1
  go_wp2_with (go_at_call 71; go_in)
  go_wp2_with (go_at_call 9; refine (fmt_any v _ b0 b1 ht1).mono ?_; rintro e w2 ⟨rfl, hb2⟩)
  have hb := hb1.trans (hb2.mono hb1.size)
  go_wp2
  go_ret2
  exact ⟨hres, hb⟩

set_option maxRecDepth 100000 in
theorem parse_walk_word (s : ByteArray) (w : World) (hs : s.size ≤ 281474976710656) (he : Errs w) (h : ∀ v, Lib.atoiAll s.data.toList ≠ .ok v) :
    Calls Tryd.prog 7 #[.string s] w fun e w' => PRes s.data.toList e ∧ Below w.heap.size w w' := by
  have hm := method_word s
  have ha := assert_word s
  have hres := pres_no (pnum_none_of_not h)
  have hread := read_no s w hs he h
  clear h
  go_enter Tryd.func7, Tryd.ntmps7
  go_wp2_with (go_at_call 19; refine hread.mono ?_; rintro e w1 ⟨rfl, hb1⟩)
  clear hread
  go_wp2_with (go_at_call 72; go_in)
  go_wp2
  go_ret2
  exact ⟨hres, hb1⟩

/-- The program's ParseInt. -/
theorem parse_any (s : ByteArray) (w : World) (hs : s.size ≤ 281474976710656) (ht : Tab w) (he : Errs w) :
    Calls Tryd.prog 7 #[.string s] w fun e w' => PRes s.data.toList e ∧ Below w.heap.size w w' := by
  cases ha : Lib.atoiAll s.data.toList with
  | ok v =>
    by_cases hi : Lib.itoa v = s.data.toList
    · by_cases r0 : 0 ≤ v
      · by_cases r1 : v ≤ 1000000000000
        · exact parse_walk_in s w hs ht v ha hi r0 r1
        · exact parse_walk_far s w hs ht v ha hi (by omega)
      · exact parse_walk_far s w hs ht v ha hi (by omega)
    · exact parse_walk_other s w hs ht v ha hi
  | range => exact parse_walk_word s w hs he (fun v hv => by rw [ha] at hv; cases hv)
  | _ => exact parse_walk_word s w hs he (fun v hv => by rw [ha] at hv; cases hv)

theorem parse_says (s : ByteArray) (w : World) (hs : s.size ≤ 281474976710656) (ht : Tab w) (he : Errs w) :
    Calls Tryd.prog 7 #[.string s] w fun e w' => e = .returned (.tuple #[.int .i64 (pval s.data.toList), .bool (pyes s.data.toList)]) ∧ Below w.heap.size w w' := parse_any s w hs ht he
end Go.Proofs.YtpplinfjpbfaoaaDoor.Fmt
