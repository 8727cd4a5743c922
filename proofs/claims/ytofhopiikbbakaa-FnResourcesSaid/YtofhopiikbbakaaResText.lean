/-
  ResourceText of the program: its words (the kind's name, then the details of a content or of a move), joined.
  Conditions: the body is a row in memory; of FormatInt and AddressText at the resource's own numbers it is given what they return.
-/
import Derived.Test.YtofhopiikbbakaaResIs
import Derived.Test.YtofhopiikbbakaaResIsS
import Derived.Test.YtofhopiikbbakaaMemV
import Derived.Test.YtofhopiikbbakaaShelfFields
import Derived.Stop.Asserts
namespace Go.Proofs.Ytofhopiikbbakaa.Res
open Go Go.RowKit Go.Lib Go.Proofs.Ytofhopiikbbakaa.Mem Go.Proofs.Ytofhopiikbbakaa.Adr Go.Proofs.Ytofhopiikbbakaa.Range

def gap (x : Nat) : Bool := x == 32
def kindNames : ByteArray := ⟨#[112, 97, 103, 101, 32, 100, 97, 116, 97, 32, 109, 111, 118, 101, 32, 110, 111, 110, 101]⟩
def nPage : ByteArray := ⟨#[112, 97, 103, 101]⟩
def nData : ByteArray := ⟨#[100, 97, 116, 97]⟩
def nMove : ByteArray := ⟨#[109, 111, 118, 101]⟩
def nNone : ByteArray := ⟨#[110, 111, 110, 101]⟩
theorem fields : Lib.goFieldsP gap kindNames = [nPage, nData, nMove, nNone] := by decide +kernel
def nm (k : Int) : ByteArray := if k = 1 then nPage else if k = 2 then nData else if k = 3 then nMove else nNone

set_option maxRecDepth 100000 in
theorem gap_pays (w : World) : PredGrows Try.prog 53 #[] gap w := by
  intro W x hx hb
  show Calls Try.prog 53 #[.int .i32 (x : Int)] W _
  by_cases h : x = 32
  · subst h
    go_enter Try.func53, Try.ntmps53
    go_wp2
    go_ret
    exact ⟨rfl, Below.refl _ _⟩
  · have h1 : ((x : Int) == 32) = false := by simp; omega
    have h2 : gap x = false := by simp [gap, h]
    rw [h2]
    go_enter Try.func53, Try.ntmps53
    go_wp2
    go_ret
    exact ⟨rfl, Below.refl _ _⟩

set_option maxHeartbeats 800000 in
set_option maxRecDepth 100000 in
theorem name_any (k : Int) (w : World) (h1 : 1 ≤ k) (h4 : k ≤ 4) :
    Calls Try.prog 33 #[.int .i64 k, .string kindNames] w fun e w' => e = .returned (.string (nm k)) ∧ Below w.heap.size w w' := by
  have cF : Calls Try.prog 52 #[.string kindNames, .func (.func 53) #[] #[]] w _ := Try.strings_FieldsFunc_grows 53 #[] (enters_of Try.func53 (by kernel_rfl) rfl) gap kindNames w (by decide) (gap_pays w)
  rw [fields] at cF
  simp only [List.length_cons, List.length_nil, Nat.zero_add, Nat.reduceAdd, List.map_cons, List.map_nil] at cF
  have hI := fun W => in_yes k 1 4 W h1 h4
  have hk : k = 1 ∨ k = 2 ∨ k = 3 ∨ k = 4 := by omega
  unfold kindNames at cF ⊢
  go_enter Try.func33, Try.ntmps33
  go_wp2_with fail
  go_at_call 52
  refine cF.mono ?_
  rintro e w1 ⟨g, rfl, hg, hown, hb1⟩
  have c0 := hown.cellAt 0 (by decide)
  have c1 := hown.cellAt 1 (by decide)
  have c2 := hown.cellAt 2 (by decide)
  have c3 := hown.cellAt 3 (by decide)
  simp only [List.getElem?_cons_zero, List.getElem?_cons_succ] at c0 c1 c2 c3
  clear cF hown
  go_wp2_with fail
  go_at_call 54
  refine (hI _).mono ?_
  rintro e w2 ⟨rfl, rfl⟩
  rcases hk with rfl | rfl | rfl | rfl
  all_goals
    go_wp2
    go_ret
    exact ⟨rfl, hb1⟩

/-- What is given of a number's text: FormatInt returns it, in every later world. -/
def Prints (tx : Int → ByteArray) (z : Int) (w : World) : Prop := ∀ W, Below w.heap.size w W → Calls Try.prog 84 #[.int .i64 z] W fun e w' => e = .returned (.string (tx z)) ∧ Below W.heap.size W w'
theorem Prints.later {tx : Int → ByteArray} {z : Int} {w w1 : World} (h : Prints tx z w) (hb : Below w.heap.size w w1) : Prints tx z w1 := fun W hW => h W (hb.trans (hW.mono hb.size))
/-- What is given of an address's text. -/
def Tells (t : ByteArray) (h p q : Int) (w : World) : Prop := ∀ W, Below w.heap.size w W → Calls Try.prog 102 #[(Value.agg #[Value.int IntKind.i64 (h), Value.int IntKind.i64 (p), Value.int IntKind.i64 (q)])] W fun e w' => e = .returned (.string t) ∧ Below W.heap.size W w'
theorem Tells.later {t : ByteArray} {h p q : Int} {w w1 : World} (k : Tells t h p q w) (hb : Below w.heap.size w w1) : Tells t h p q w1 := fun W hW => k W (hb.trans (hW.mono hb.size))

theorem strInfo : (Try.prog.info? 9).map (fun i => (i.zero, i.size, i.bytes)) = some (some (.string ⟨#[]⟩), 1, 16) := by kernel_rfl

def txs (tx : Int → ByteArray) (zs : List Int) : List Value := zs.map fun z => Value.string (tx z)
theorem txs_next (tx : Int → ByteArray) (zs : List Int) (j : Nat) (h : j < zs.length) : txs tx (zs.take j) ++ [Value.string (tx (zs.getD j 0))] = txs tx (zs.take (j + 1)) := by
  unfold txs
  rw [List.take_succ_eq_append_getElem h, List.map_append, List.getD_eq_getElem?_getD, List.getElem?_eq_getElem h]; rfl

set_option maxHeartbeats 1600000 in
set_option maxRecDepth 100000 in
theorem details_content (tx : Int → ByteArray) (lo hi : Nat) (k h p q : Int) (w : World) (a : Option Addr) (n c : Nat) (zs : List Int) (hr : Row .i64 lo hi w a n zs) (hn : n ≤ 1048576) (hF : ∀ z ∈ zs, Prints tx z w) :
    Calls Try.prog 82 #[(Value.agg #[Value.int IntKind.i64 (k), Value.slice (a) (n) (c), Value.int IntKind.i64 (h), Value.int IntKind.i64 (p), Value.int IntKind.i64 (q)])] w fun e w' => ∃ v, e = .returned v ∧ OwnV 9 w.heap.size w' v n (txs tx zs) ∧ Below w.heap.size w w' := by
  obtain ⟨i0, hi0, hz0, hz1, hz2⟩ := info_parts strInfo
  have hl := Lib.hid hr.len
  have hB0 : Below w.heap.size w ((w.alloc (.cells #[.int .i64 k, .slice a n c, .int .i64 h, .int .i64 p, .int .i64 q] 76)).alloc (.cells #[] 9)) := by repeat' (first | exact Below.refl _ _ | assumption | refine Below.setCell ?_ ?_ _ | refine Below.alloc ?_ ?_ _ | refine Adr.below_drewN ?_ _ | refine Below.drew ?_ | exact Nat.le_refl _ | omega | (dsimp only; omega) | refine Adr.le_alloc ?_ | refine Adr.le_set ?_ | refine Adr.le_drewN ?_ | refine Adr.le_drew ?_)
  have hO0 : OwnV 9 w.heap.size ((w.alloc (.cells #[.int .i64 k, .slice a n c, .int .i64 h, .int .i64 p, .int .i64 q] 76)).alloc (.cells #[] 9)) (.slice (some ⟨w.heap.size + 1, 0, none⟩) 0 0) 0 (txs tx (zs.take 0)) := by
    have := OwnV.made 9 (base := w.heap.size) (w.alloc (.cells #[.int .i64 k, .slice a n c, .int .i64 h, .int .i64 p, .int .i64 q] 76)) (by rw [size_alloc]; omega)
    rw [size_alloc] at this
    exact this
  go_enter Try.func82, Try.ntmps82
  go_wp2
  go_loopw [3, 5, 10] (fun v u i wr => ∃ j : Nat, j ≤ n ∧ i = .int .i64 j ∧ OwnV 9 w.heap.size wr v j (txs tx (zs.take j)) ∧ Below w.heap.size w wr) (fun _ _ i _ => n - (intOf i).toNat)
  case atStart => exact ⟨0, Nat.zero_le _, rfl, hO0, hB0⟩
  case round =>
    obtain ⟨j, hj, rfl, hO, hB⟩ := hrel
    by_cases hlt : j < n
    · have hr1 := hr.below hB
      obtain ⟨b, o, rfl, _, _, hc⟩ := hr1.cell hlt
      have hz : zs.getD j 0 ∈ zs := by
        have := hl.out
        rw [List.getD_eq_getElem?_getD, List.getElem?_eq_getElem (by omega)]; exact List.getElem_mem _
      have hP := hF _ hz _ hB
      have hnx := Lib.hid (txs_next tx zs j (by rw [hl.out]; exact hlt))
      generalize zs.getD j 0 = z at hc hz hP hnx
      clear hO0 hB0 hr1
      go_wp2_with fail
      go_at_call 84
      refine hP.mono ?_
      rintro e w1 ⟨rfl, hb1⟩
      have hB1 := hB.trans (hb1.mono hB.size)
      have hO1 := (hO.below hb1).alloc (.cells #[.string (tx z)] 9)
      have hB2 := hB1.alloc hB1.size (.cells #[.string (tx z)] 9)
      clear hP hO hB hb1
      go_wp2_with (at_builtin; refine wpList_append_val rfl _ _ 55 rfl w.heap.size 9 i0 _ 16 Try.underlying55 hi0 hz0 hz1 hz2 rfl _ j _ rfl hO1 w1.heap.size 1 (.string (tx z)) rfl rfl ?c0 ?c1 ?c2 ?c3 ?_; (case c0 => simp [World.cell?_alloc_new]); (case c1 => unfold maxLen; omega); (case c2 => omega); (case c3 => exact hB2.size); intro v2 w2 ho2 hb2 _)
      go_roundw
      case rel => exact ⟨j + 1, by omega, by go_num, by rw [← hnx.out]; exact ho2, hB2.trans hb2⟩
      case measure => simp [intOf]; omega
    · have hd : decide ((j : Int) < (n : Int)) = false := by simp; omega
      have hj' : j = n := by omega
      subst hj'
      rw [List.take_of_length_le (by rw [hl.out]; exact Nat.le_refl _)] at hO
      go_wp2
      go_ret
      exact ⟨_, rfl, hO, hB⟩

set_option maxHeartbeats 800000 in
set_option maxRecDepth 100000 in
theorem details_move (t : ByteArray) (k h p q : Int) (w : World) (a : Option Addr) (n c : Nat) (hA : Tells t h p q w) :
    Calls Try.prog 100 #[(Value.agg #[Value.int IntKind.i64 (k), Value.slice (a) (n) (c), Value.int IntKind.i64 (h), Value.int IntKind.i64 (p), Value.int IntKind.i64 (q)])] w fun e w' => ∃ v, e = .returned v ∧ OwnV 9 w.heap.size w' v 1 [.string t] ∧ Below w.heap.size w w' := by
  have hB : Below w.heap.size w (w.alloc (.cells #[.int .i64 k, .slice a n c, .int .i64 h, .int .i64 p, .int .i64 q] 77)) := by repeat' (first | exact Below.refl _ _ | assumption | refine Below.setCell ?_ ?_ _ | refine Below.alloc ?_ ?_ _ | refine Adr.below_drewN ?_ _ | refine Below.drew ?_ | exact Nat.le_refl _ | omega | (dsimp only; omega) | refine Adr.le_alloc ?_ | refine Adr.le_set ?_ | refine Adr.le_drewN ?_ | refine Adr.le_drew ?_)
  have hT := hA _ hB
  go_enter Try.func100, Try.ntmps100
  go_wp2_with fail
  go_at_call 102
  refine hT.mono ?_
  rintro e w1 ⟨rfl, hb1⟩
  have hB1 := hB.trans (hb1.mono hB.size)
  go_wp2
  go_ret
  exact ⟨_, rfl, OwnV.lit 9 w1 [.string t] hB1.size (by unfold maxLen; simp), hB1.alloc hB1.size _⟩
end Go.Proofs.Ytofhopiikbbakaa.Res
