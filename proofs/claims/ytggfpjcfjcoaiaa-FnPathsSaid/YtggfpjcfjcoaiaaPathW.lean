/-
  PathTo, of the program and of the model: a row of the call's own.
  Conditions: the row lies in memory, at most 10^12 digests.
-/
import Derived.Test.YtggfpjcfjcoaiaaPathI
namespace Go.Proofs.Ytggfpjcfjcoaiaa.Tre
open Go Go.RowKit Go.Proofs.Ytggfpjcfjcoaiaa.Mem Go.Proofs.Ytggfpjcfjcoaiaa.Hsh

theorem hands_slice {w w' : World} {e : Ending} {zs : List Int} (hz : ∀ z ∈ zs, (Lit.int .i64 z).wf = true) (h : Hands w zs e w') : Slice .i64 w.heap.size zs.length zs w e w' := by
  obtain ⟨v, rfl, ho, hb⟩ := h
  obtain ⟨a, c, rfl, h1, h2, h3⟩ := ho.own hz
  exact ⟨a, c, rfl, h3, h1, h2, hb⟩
theorem path_impl_row (lo hi n c : Nat) (i : Int) (w : World) (a : Option Addr) (zs : List Int) (hr : Row .i64 lo hi w a n zs) (hc : n ≤ c) (hm : c ≤ maxLen) (hn : n ≤ 1000000000000) (hh : hi ≤ w.heap.size) :
    Calls Try.prog 10 #[.slice a n c, .int .i64 i] w (Slice .i64 w.heap.size (pth zs i).length (pth zs i) w) :=
  (path_impl lo hi n c i w a zs hr hc hm hn hh).mono fun _ _ h => hands_slice (pth_wf hr.wf i) h
theorem path_spec_row (lo hi n c : Nat) (i : Int) (w : World) (a : Option Addr) (zs : List Int) (hr : Row .i64 lo hi w a n zs) (hc : n ≤ c) (hm : c ≤ maxLen) (hn : n ≤ 1000000000000) (wi : (Lit.int .i64 i).wf = true) :
    Calls Try.prog 23 #[.slice a n c, .int .i64 i] w (Slice .i64 w.heap.size (pth zs i).length (pth zs i) w) :=
  (path_spec lo hi n c i w a zs hr hc hm hn wi).mono fun _ _ h => hands_slice (pth_wf hr.wf i) h
end Go.Proofs.Ytggfpjcfjcoaiaa.Tre
