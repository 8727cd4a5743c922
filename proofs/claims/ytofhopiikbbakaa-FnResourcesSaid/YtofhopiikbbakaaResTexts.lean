/-
  ResourceText of the program, whole: the words joined where the resource is valid, no letter where it is not.
  Conditions: the body is a row in memory; of FormatInt and AddressText at the resource's own numbers it is given what they return.
-/
import Derived.Test.YtofhopiikbbakaaResText
import Derived.Test.YtofhopiikbbakaaShelfJoin
namespace Go.Proofs.Ytofhopiikbbakaa.Res
open Go Go.RowKit Go.Lib Go.Proofs.Ytofhopiikbbakaa.Mem Go.Proofs.Ytofhopiikbbakaa.Adr Go.Proofs.Ytofhopiikbbakaa.Range

/-- The words of a valid resource's text. -/
def words (tx : Int → ByteArray) (t : ByteArray) (k : Int) (zs : List Int) : List ByteArray := nm k :: (if k = 3 then [t] else if k = 4 then [] else zs.map tx)
def joined (ws : List ByteArray) : List UInt8 := Lib.join (ws.map (·.data.toList)) [32]
def rtext (tx : Int → ByteArray) (t : ByteArray) (k : Int) (zs : List Int) : ByteArray := ⟨(joined (words tx t k zs)).toArray⟩

theorem as_content (v : Value) (w : World) : (Instr.typeAssert (.iface 76 v) 51 57 true).run Try.prog w = .ok (.tuple #[.iface 76 v, .bool true]) w :=
  run_typeAssert_hasB Try.underlying57 (by kernel_rfl) v 51 w
theorem as_move (v : Value) (w : World) : (Instr.typeAssert (.iface 77 v) 51 57 true).run Try.prog w = .ok (.tuple #[.iface 77 v, .bool true]) w :=
  run_typeAssert_hasB Try.underlying57 (by kernel_rfl) v 51 w
theorem as_absence (v : Value) (w : World) : (Instr.typeAssert (.iface 78 v) 51 57 true).run Try.prog w = .ok (.tuple #[.nilIface, .bool false]) w :=
  run_typeAssert_lacksB Try.underlying57 (by kernel_rfl) (by kernel_rfl) v 51 w

/-- The join of a row of the call's own. -/
theorem join_own (base : Nat) (w : World) (v : Value) (n : Nat) (ws : List ByteArray) (h : OwnV 9 base w v n (ws.map Value.string)) (h0 : 0 < n) (hn : n ≤ 1048577) (hlen : (joined ws).length ≤ 140737488355328) :
    Calls Try.prog 34 #[v, .string ⟨#[32]⟩] w fun e w' => e = .returned (.string ⟨(joined ws).toArray⟩) ∧ Below w.heap.size w w' := by
  have hl : ws.length = n := by simpa using h.len
  obtain ⟨g, c, rfl, hg, hc, hm, hcell⟩ := h.cells h0
  subst hl
  have hcells : ∀ (j : Nat) x, ws[j]? = some x → w.cell? ⟨g, 0 + j, none⟩ = some (.string x) := by
    intro j x hj
    obtain ⟨hj1, hj2⟩ := List.getElem?_eq_some_iff.1 hj
    rw [Nat.zero_add, hcell j (by simpa using hj1)]
    simp [hj2]
  exact Try.strings_Join g 0 c ws ⟨#[32]⟩ w hcells (World.block_lt_of_cell? _ _ (hcells 0 ws[0] (by simp [h0]))) (by omega) hc hlen

set_option maxHeartbeats 1600000 in
set_option maxRecDepth 100000 in
set_option linter.unusedVariables false in
theorem text_content_no (tx : Int → ByteArray) (t : ByteArray) (lo hi : Nat) (k h p q : Int) (w : World) (a : Option Addr) (n c : Nat) (zs : List Int) (hr : Row .i64 lo hi w a n zs) (hn : n ≤ 1048576) (hk : k = 1 ∨ k = 2) (hb : (decide (n ≤ 6) && (allB zs && zero3 h p q)) = false) :
    Calls Try.prog 11 #[(Value.agg #[Value.int IntKind.i64 (k), Value.slice (a) (n) (c), Value.int IntKind.i64 (h), Value.int IntKind.i64 (p), Value.int IntKind.i64 (q)])] w fun e w' => e = .returned (.string ⟨#[]⟩) ∧ Below w.heap.size w w' := by
    have hB : Below w.heap.size w (w.alloc (.cells #[.int .i64 k, .slice a n c, .int .i64 h, .int .i64 p, .int .i64 q] 28)) := by repeat' (first | exact Below.refl _ _ | assumption | refine Below.setCell ?_ ?_ _ | refine Below.alloc ?_ ?_ _ | refine Adr.below_drewN ?_ _ | refine Below.drew ?_ | exact Nat.le_refl _ | omega | (dsimp only; omega) | refine Adr.le_alloc ?_ | refine Adr.le_set ?_ | refine Adr.le_drewN ?_ | refine Adr.le_drew ?_)
    have Q := Quint.new 28 (.int .i64 k) (.slice a n c) (.int .i64 h) (.int .i64 p) (.int .i64 q) w
    go_enter Try.func11, Try.ntmps11
    go_wp2_with fail
    go_at_call 32
    refine (answer_content k h p q _ a n c hk).mono ?_
    rintro e w1 ⟨rfl, hb1⟩
    have hB1 := hB.trans (hb1.mono hB.size)
    have Q1 := Q.below hb1
    clear hB Q hb1
    go_wp2_with fail
    go_at_call 83
    refine (sound_content lo hi k h p q _ a n c zs (hr.below hB1)).mono ?_
    rw [hb]
    rintro e w2 ⟨rfl, hb2⟩
    have hB2 := hB1.trans (hb2.mono hB1.size)
    have Q2 := Q1.below hb2
    clear hB1 Q1 hb2
    go_wp2
    go_ret
    exact ⟨rfl, hB2⟩

set_option maxHeartbeats 1600000 in
set_option maxRecDepth 100000 in
set_option linter.unusedVariables false in
theorem text_content_yes (tx : Int → ByteArray) (t : ByteArray) (lo hi : Nat) (k h p q : Int) (w : World) (a : Option Addr) (n c : Nat) (zs : List Int) (hr : Row .i64 lo hi w a n zs) (hn : n ≤ 1048576) (hk : k = 1 ∨ k = 2) (hb : (decide (n ≤ 6) && (allB zs && zero3 h p q)) = true) (hF : ∀ z ∈ zs, Prints tx z w) (hlen : (joined (nm k :: zs.map tx)).length ≤ 140737488355328) :
    Calls Try.prog 11 #[(Value.agg #[Value.int IntKind.i64 (k), Value.slice (a) (n) (c), Value.int IntKind.i64 (h), Value.int IntKind.i64 (p), Value.int IntKind.i64 (q)])] w fun e w' => e = .returned (.string ⟨(joined (nm k :: zs.map tx)).toArray⟩) ∧ Below w.heap.size w w' := by
    obtain ⟨i0, hi0, hz0, hz1, hz2⟩ := info_parts strInfo
    have hB : Below w.heap.size w (w.alloc (.cells #[.int .i64 k, .slice a n c, .int .i64 h, .int .i64 p, .int .i64 q] 28)) := by repeat' (first | exact Below.refl _ _ | assumption | refine Below.setCell ?_ ?_ _ | refine Below.alloc ?_ ?_ _ | refine Adr.below_drewN ?_ _ | refine Below.drew ?_ | exact Nat.le_refl _ | omega | (dsimp only; omega) | refine Adr.le_alloc ?_ | refine Adr.le_set ?_ | refine Adr.le_drewN ?_ | refine Adr.le_drew ?_)
    have Q := Quint.new 28 (.int .i64 k) (.slice a n c) (.int .i64 h) (.int .i64 p) (.int .i64 q) w
    go_enter Try.func11, Try.ntmps11
    go_wp2_with fail
    go_at_call 32
    refine (answer_content k h p q _ a n c hk).mono ?_
    rintro e w1 ⟨rfl, hb1⟩
    have hB1 := hB.trans (hb1.mono hB.size)
    have Q1 := Q.below hb1
    clear hB Q hb1
    go_wp2_with fail
    go_at_call 83
    refine (sound_content lo hi k h p q _ a n c zs (hr.below hB1)).mono ?_
    rw [hb]
    rintro e w2 ⟨rfl, hb2⟩
    have hB2 := hB1.trans (hb2.mono hB1.size)
    have Q2 := Q1.below hb2
    clear hB1 Q1 hb2
    obtain ⟨q0, q1, q2, q3, q4⟩ := Q2.cells
    go_wp2_with fail
    go_at_call 33
    refine (name_any k _ (by omega) (by omega)).mono ?_
    rintro e w3 ⟨rfl, hb3⟩
    have hB3 := hB2.trans (hb3.mono hB2.size)
    have hO3 := OwnV.lit 9 w3 [.string (nm k)] hB3.size (by unfold maxLen; simp)
    simp only [List.length_cons, List.length_nil, Nat.zero_add] at hO3
    have hB4 := hB3.alloc hB3.size (.cells #[.string (nm k)] 9)
    have hAs := fun (v : Value) (w : World) => as_content v w
    clear q0 q1 q2 q3 q4 Q2 hB2 hb3
    go_wp2_with fail
    go_at_call 82
    refine (details_content tx lo hi k h p q _ a n c zs (hr.below hB4) hn (fun z hz => (hF z hz).later hB4)).mono ?_
    rintro e w5 ⟨v5, rfl, hO5, hb5⟩
    have hB5 := hB4.trans (hb5.mono hB4.size)
    have hO4 := hO3.below hb5
    clear hO3 hb5 hB4
    go_wp2_with (at_builtin; refine wpList_append_vals rfl _ _ 55 rfl w.heap.size 9 i0 _ 16 Try.underlying55 hi0 hz0 hz1 hz2 rfl _ 1 _ rfl hO4 _ v5 n _ rfl hO5 ?c0 ?c1 ?c2 ?c3 ?_; (case c0 => intro u hu; simp only [txs, List.mem_map] at hu; obtain ⟨z, _, rfl⟩ := hu; rfl); (case c1 => unfold maxLen; omega); (case c2 => omega); (case c3 => exact hB5.size); intro v6 w6 ho6 hb6)
    have hB6 := hB5.trans hb6
    have e6 : ((nm k :: zs.map tx)).map Value.string = [Value.string (nm k)] ++ txs tx zs := by simp [txs, Function.comp_def]
    rw [← e6] at ho6
    have hJ := join_own w.heap.size w6 v6 _ (nm k :: zs.map tx) ho6 (by omega) (by omega) hlen
    go_wp2_with fail
    go_at_call 34
    refine hJ.mono ?_
    rintro e w7 ⟨rfl, hb7⟩
    go_wp2
    go_ret
    exact ⟨rfl, hB6.trans (hb7.mono hB6.size)⟩

set_option maxHeartbeats 1600000 in
set_option maxRecDepth 100000 in
set_option linter.unusedVariables false in
theorem text_move_no (tx : Int → ByteArray) (t : ByteArray) (lo hi : Nat) (h p q : Int) (w : World) (a : Option Addr) (n c : Nat) (zs : List Int) (hr : Row .i64 lo hi w a n zs) (hn : n ≤ 1048576) (hb : (decide (n = 0) && okA h p q) = false) :
    Calls Try.prog 11 #[(Value.agg #[Value.int IntKind.i64 (3), Value.slice (a) (n) (c), Value.int IntKind.i64 (h), Value.int IntKind.i64 (p), Value.int IntKind.i64 (q)])] w fun e w' => e = .returned (.string ⟨#[]⟩) ∧ Below w.heap.size w w' := by
    have hB : Below w.heap.size w (w.alloc (.cells #[.int .i64 3, .slice a n c, .int .i64 h, .int .i64 p, .int .i64 q] 28)) := by repeat' (first | exact Below.refl _ _ | assumption | refine Below.setCell ?_ ?_ _ | refine Below.alloc ?_ ?_ _ | refine Adr.below_drewN ?_ _ | refine Below.drew ?_ | exact Nat.le_refl _ | omega | (dsimp only; omega) | refine Adr.le_alloc ?_ | refine Adr.le_set ?_ | refine Adr.le_drewN ?_ | refine Adr.le_drew ?_)
    have Q := Quint.new 28 (.int .i64 3) (.slice a n c) (.int .i64 h) (.int .i64 p) (.int .i64 q) w
    go_enter Try.func11, Try.ntmps11
    go_wp2_with fail
    go_at_call 32
    refine (answer_move h p q _ a n c).mono ?_
    rintro e w1 ⟨rfl, hb1⟩
    have hB1 := hB.trans (hb1.mono hB.size)
    have Q1 := Q.below hb1
    clear hB Q hb1
    go_wp2_with fail
    go_at_call 101
    refine (sound_move 3 h p q _ a n c).mono ?_
    rw [hb]
    rintro e w2 ⟨rfl, hb2⟩
    have hB2 := hB1.trans (hb2.mono hB1.size)
    have Q2 := Q1.below hb2
    clear hB1 Q1 hb2
    go_wp2
    go_ret
    exact ⟨rfl, hB2⟩

set_option maxHeartbeats 1600000 in
set_option maxRecDepth 100000 in
set_option linter.unusedVariables false in
theorem text_move_yes (tx : Int → ByteArray) (t : ByteArray) (lo hi : Nat) (h p q : Int) (w : World) (a : Option Addr) (n c : Nat) (zs : List Int) (hr : Row .i64 lo hi w a n zs) (hn : n ≤ 1048576) (hb : (decide (n = 0) && okA h p q) = true) (hA : Tells t h p q w) (hlen : (joined ([nm 3, t])).length ≤ 140737488355328) :
    Calls Try.prog 11 #[(Value.agg #[Value.int IntKind.i64 (3), Value.slice (a) (n) (c), Value.int IntKind.i64 (h), Value.int IntKind.i64 (p), Value.int IntKind.i64 (q)])] w fun e w' => e = .returned (.string ⟨(joined ([nm 3, t])).toArray⟩) ∧ Below w.heap.size w w' := by
    obtain ⟨i0, hi0, hz0, hz1, hz2⟩ := info_parts strInfo
    have hB : Below w.heap.size w (w.alloc (.cells #[.int .i64 3, .slice a n c, .int .i64 h, .int .i64 p, .int .i64 q] 28)) := by repeat' (first | exact Below.refl _ _ | assumption | refine Below.setCell ?_ ?_ _ | refine Below.alloc ?_ ?_ _ | refine Adr.below_drewN ?_ _ | refine Below.drew ?_ | exact Nat.le_refl _ | omega | (dsimp only; omega) | refine Adr.le_alloc ?_ | refine Adr.le_set ?_ | refine Adr.le_drewN ?_ | refine Adr.le_drew ?_)
    have Q := Quint.new 28 (.int .i64 3) (.slice a n c) (.int .i64 h) (.int .i64 p) (.int .i64 q) w
    go_enter Try.func11, Try.ntmps11
    go_wp2_with fail
    go_at_call 32
    refine (answer_move h p q _ a n c).mono ?_
    rintro e w1 ⟨rfl, hb1⟩
    have hB1 := hB.trans (hb1.mono hB.size)
    have Q1 := Q.below hb1
    clear hB Q hb1
    go_wp2_with fail
    go_at_call 101
    refine (sound_move 3 h p q _ a n c).mono ?_
    rw [hb]
    rintro e w2 ⟨rfl, hb2⟩
    have hB2 := hB1.trans (hb2.mono hB1.size)
    have Q2 := Q1.below hb2
    clear hB1 Q1 hb2
    obtain ⟨q0, q1, q2, q3, q4⟩ := Q2.cells
    go_wp2_with fail
    go_at_call 33
    refine (name_any 3 _ (by omega) (by omega)).mono ?_
    rintro e w3 ⟨rfl, hb3⟩
    have hB3 := hB2.trans (hb3.mono hB2.size)
    have hO3 := OwnV.lit 9 w3 [.string (nm 3)] hB3.size (by unfold maxLen; simp)
    simp only [List.length_cons, List.length_nil, Nat.zero_add] at hO3
    have hB4 := hB3.alloc hB3.size (.cells #[.string (nm 3)] 9)
    have hAs := fun (v : Value) (w : World) => as_move v w
    clear q0 q1 q2 q3 q4 Q2 hB2 hb3
    go_wp2_with fail
    go_at_call 100
    refine (details_move t 3 h p q _ a n c (hA.later hB4)).mono ?_
    rintro e w5 ⟨v5, rfl, hO5, hb5⟩
    have hB5 := hB4.trans (hb5.mono hB4.size)
    have hO4 := hO3.below hb5
    clear hO3 hb5 hB4
    go_wp2_with (at_builtin; refine wpList_append_vals rfl _ _ 55 rfl w.heap.size 9 i0 _ 16 Try.underlying55 hi0 hz0 hz1 hz2 rfl _ 1 _ rfl hO4 _ v5 1 _ rfl hO5 ?c0 ?c1 ?c2 ?c3 ?_; (case c0 => intro u hu; simp at hu; subst hu; rfl); (case c1 => unfold maxLen; omega); (case c2 => omega); (case c3 => exact hB5.size); intro v6 w6 ho6 hb6)
    have hB6 := hB5.trans hb6
    have e6 : (([nm 3, t])).map Value.string = [Value.string (nm 3)] ++ [Value.string t] := by simp [txs, Function.comp_def]
    rw [← e6] at ho6
    have hJ := join_own w.heap.size w6 v6 _ ([nm 3, t]) ho6 (by omega) (by omega) hlen
    go_wp2_with fail
    go_at_call 34
    refine hJ.mono ?_
    rintro e w7 ⟨rfl, hb7⟩
    go_wp2
    go_ret
    exact ⟨rfl, hB6.trans (hb7.mono hB6.size)⟩

set_option maxHeartbeats 1600000 in
set_option maxRecDepth 100000 in
set_option linter.unusedVariables false in
theorem text_absence_no (tx : Int → ByteArray) (t : ByteArray) (lo hi : Nat) (h p q : Int) (w : World) (a : Option Addr) (n c : Nat) (zs : List Int) (hr : Row .i64 lo hi w a n zs) (hn : n ≤ 1048576) (hb : (decide (n = 0) && zero3 h p q) = false) :
    Calls Try.prog 11 #[(Value.agg #[Value.int IntKind.i64 (4), Value.slice (a) (n) (c), Value.int IntKind.i64 (h), Value.int IntKind.i64 (p), Value.int IntKind.i64 (q)])] w fun e w' => e = .returned (.string ⟨#[]⟩) ∧ Below w.heap.size w w' := by
    have hB : Below w.heap.size w (w.alloc (.cells #[.int .i64 4, .slice a n c, .int .i64 h, .int .i64 p, .int .i64 q] 28)) := by repeat' (first | exact Below.refl _ _ | assumption | refine Below.setCell ?_ ?_ _ | refine Below.alloc ?_ ?_ _ | refine Adr.below_drewN ?_ _ | refine Below.drew ?_ | exact Nat.le_refl _ | omega | (dsimp only; omega) | refine Adr.le_alloc ?_ | refine Adr.le_set ?_ | refine Adr.le_drewN ?_ | refine Adr.le_drew ?_)
    have Q := Quint.new 28 (.int .i64 4) (.slice a n c) (.int .i64 h) (.int .i64 p) (.int .i64 q) w
    go_enter Try.func11, Try.ntmps11
    go_wp2_with fail
    go_at_call 32
    refine (answer_absence h p q _ a n c).mono ?_
    rintro e w1 ⟨rfl, hb1⟩
    have hB1 := hB.trans (hb1.mono hB.size)
    have Q1 := Q.below hb1
    clear hB Q hb1
    go_wp2_with fail
    go_at_call 104
    refine (sound_absence 4 h p q _ a n c).mono ?_
    rw [hb]
    rintro e w2 ⟨rfl, hb2⟩
    have hB2 := hB1.trans (hb2.mono hB1.size)
    have Q2 := Q1.below hb2
    clear hB1 Q1 hb2
    go_wp2
    go_ret
    exact ⟨rfl, hB2⟩

set_option maxHeartbeats 1600000 in
set_option maxRecDepth 100000 in
set_option linter.unusedVariables false in
theorem text_absence_yes (tx : Int → ByteArray) (t : ByteArray) (lo hi : Nat) (h p q : Int) (w : World) (a : Option Addr) (n c : Nat) (zs : List Int) (hr : Row .i64 lo hi w a n zs) (hn : n ≤ 1048576) (hb : (decide (n = 0) && zero3 h p q) = true) (hlen : (joined ([nm 4])).length ≤ 140737488355328) :
    Calls Try.prog 11 #[(Value.agg #[Value.int IntKind.i64 (4), Value.slice (a) (n) (c), Value.int IntKind.i64 (h), Value.int IntKind.i64 (p), Value.int IntKind.i64 (q)])] w fun e w' => e = .returned (.string ⟨(joined ([nm 4])).toArray⟩) ∧ Below w.heap.size w w' := by
    obtain ⟨i0, hi0, hz0, hz1, hz2⟩ := info_parts strInfo
    have hB : Below w.heap.size w (w.alloc (.cells #[.int .i64 4, .slice a n c, .int .i64 h, .int .i64 p, .int .i64 q] 28)) := by repeat' (first | exact Below.refl _ _ | assumption | refine Below.setCell ?_ ?_ _ | refine Below.alloc ?_ ?_ _ | refine Adr.below_drewN ?_ _ | refine Below.drew ?_ | exact Nat.le_refl _ | omega | (dsimp only; omega) | refine Adr.le_alloc ?_ | refine Adr.le_set ?_ | refine Adr.le_drewN ?_ | refine Adr.le_drew ?_)
    have Q := Quint.new 28 (.int .i64 4) (.slice a n c) (.int .i64 h) (.int .i64 p) (.int .i64 q) w
    go_enter Try.func11, Try.ntmps11
    go_wp2_with fail
    go_at_call 32
    refine (answer_absence h p q _ a n c).mono ?_
    rintro e w1 ⟨rfl, hb1⟩
    have hB1 := hB.trans (hb1.mono hB.size)
    have Q1 := Q.below hb1
    clear hB Q hb1
    go_wp2_with fail
    go_at_call 104
    refine (sound_absence 4 h p q _ a n c).mono ?_
    rw [hb]
    rintro e w2 ⟨rfl, hb2⟩
    have hB2 := hB1.trans (hb2.mono hB1.size)
    have Q2 := Q1.below hb2
    clear hB1 Q1 hb2
    obtain ⟨q0, q1, q2, q3, q4⟩ := Q2.cells
    go_wp2_with fail
    go_at_call 33
    refine (name_any 4 _ (by omega) (by omega)).mono ?_
    rintro e w3 ⟨rfl, hb3⟩
    have hB3 := hB2.trans (hb3.mono hB2.size)
    have hO3 := OwnV.lit 9 w3 [.string (nm 4)] hB3.size (by unfold maxLen; simp)
    simp only [List.length_cons, List.length_nil, Nat.zero_add] at hO3
    have hB4 := hB3.alloc hB3.size (.cells #[.string (nm 4)] 9)
    have hAs := fun (v : Value) (w : World) => as_absence v w
    clear q0 q1 q2 q3 q4 Q2 hB2 hb3
    have hJ := join_own w.heap.size _ _ 1 [nm 4] hO3 (by omega) (by omega) hlen
    go_wp2_with fail
    go_at_call 34
    refine hJ.mono ?_
    rintro e w7 ⟨rfl, hb7⟩
    go_wp2
    go_ret
    exact ⟨rfl, hB4.trans (hb7.mono hB4.size)⟩

set_option maxHeartbeats 800000 in
set_option maxRecDepth 100000 in
theorem text_stray (k h p q : Int) (w : World) (a : Option Addr) (n c : Nat) (h12 : ¬ (k = 1 ∨ k = 2)) (h3 : ¬ k = 3) (h4 : ¬ k = 4) :
    Calls Try.prog 11 #[(Value.agg #[Value.int IntKind.i64 (k), Value.slice (a) (n) (c), Value.int IntKind.i64 (h), Value.int IntKind.i64 (p), Value.int IntKind.i64 (q)])] w fun e w' => e = .returned (.string ⟨#[]⟩) ∧ Below w.heap.size w w' := by
  have hB : Below w.heap.size w (w.alloc (.cells #[.int .i64 k, .slice a n c, .int .i64 h, .int .i64 p, .int .i64 q] 28)) := by repeat' (first | exact Below.refl _ _ | assumption | refine Below.setCell ?_ ?_ _ | refine Below.alloc ?_ ?_ _ | refine Adr.below_drewN ?_ _ | refine Below.drew ?_ | exact Nat.le_refl _ | omega | (dsimp only; omega) | refine Adr.le_alloc ?_ | refine Adr.le_set ?_ | refine Adr.le_drewN ?_ | refine Adr.le_drew ?_)
  go_enter Try.func11, Try.ntmps11
  go_wp2_with fail
  go_at_call 32
  refine (answer_stray k h p q _ a n c h12 h3 h4).mono ?_
  rintro e w1 ⟨rfl, hb1⟩
  have hB1 := hB.trans (hb1.mono hB.size)
  go_wp2_with fail
  go_at_call 105
  refine (sound_stray k h p q _ a n c).mono ?_
  rintro e w2 ⟨rfl, hb2⟩
  go_wp2
  go_ret
  exact ⟨rfl, hB1.trans (hb2.mono hB1.size)⟩
end Go.Proofs.Ytofhopiikbbakaa.Res
