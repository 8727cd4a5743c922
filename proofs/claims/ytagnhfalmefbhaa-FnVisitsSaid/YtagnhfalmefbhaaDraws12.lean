/-
  The draws of visits.
  Conditions: the bytes lie below the cursor's block.
-/
import Derived.Test.YtagnhfalmefbhaaDrawSite
import Derived.Test.YtagnhfalmefbhaaGVisit
import Derived.Test.YtagnhfalmefbhaaSteps
namespace Go.Proofs.Ytagnhfalmefbhaa.Draw
set_option linter.unusedVariables false
open Go Go.RowKit Go.Proofs.Ytagnhfalmefbhaa.Mem Go.Proofs.Ytagnhfalmefbhaa.Gen Go.Proofs.Ytagnhfalmefbhaa.Adr Go.Proofs.Ytagnhfalmefbhaa.Res Go.Proofs.Ytagnhfalmefbhaa.Sites

theorem own_ne_blk {k : IntKind} {e T b base n : Nat} {w : World} {v : Value} {zs : List Int} {xs : List Value} (h : OwnI k e base w v n zs) (q : Blk T b xs w) (hne : e ≠ T) : some b ≠ v.ownBlock := by
  rcases h.2 with ⟨rfl, _⟩ | ⟨g, cap, cur, rfl, _, hg, _⟩
  · simp [Value.ownBlock]
  · intro he
    simp only [Value.ownBlock, Option.some.injEq] at he
    subst he
    unfold Blk at q
    rw [q] at hg
    injection hg with hg
    injection hg with _ h2 _
    exact hne h2.symm
def Tame (zs : List Int) : Prop := ∀ z ∈ zs, I64 z
theorem Tame.nil : Tame [] := fun _ h => by cases h
theorem Tame.snoc {zs : List Int} {q : Int} (h : Tame zs) (hq : I64 q) : Tame (zs ++ [q]) := fun z hz => by
  rcases List.mem_append.1 hz with h1 | h1
  · exact h z h1
  · rw [List.mem_singleton.1 h1]; exact hq
theorem Tame.wf {zs : List Int} (h : Tame zs) : ∀ z ∈ zs, (Lit.int .i64 z).wf = true := fun z hz => WalkArith.wf_i64 (by have := h z hz; unfold I64 at this; omega)

/-- A visit in a box, its inputs under way. -/
structure VisU (B p s0 base b : Nat) (w W : World) (l : List TVersion) (a0 : Option Addr) (c0 : Nat) (t s : Int) (a3 : Option Addr) (n c3 : Nat) (zs : List Int) : Prop where
  box : Blk 27 b [.slice a0 l.length c0, .int .i64 t, .int .i64 s, .slice a3 n c3] W
  site : Lies s0 base W (dVersion l) (.slice a0 l.length c0)
  row : OwnI .i64 3 base W (.slice a3 n c3) n zs
  cur : Cur 97 B p W
  on : Only p w W
  hB : B ≤ p
  hp : p < w.heap.size
  hw : w.heap.size ≤ s0
  hs : s0 ≤ base
  hb : base ≤ b
section
variable {B p s0 base b : Nat} {w W W' : World} {l : List TVersion} {a0 : Option Addr} {c0 : Nat} {t s : Int} {a3 : Option Addr} {n c3 : Nat} {zs : List Int}
theorem VisU.ne (h : VisU B p s0 base b w W l a0 c0 t s a3 n c3 zs) : some b ≠ (Value.slice a3 n c3).ownBlock := own_ne_blk h.row h.box (by decide)
theorem VisU.only (h : VisU B p s0 base b w W l a0 c0 t s a3 n c3 zs) (ho : Only p W W') (hc : Cur 97 B p W') : VisU B p s0 base b w W' l a0 c0 t s a3 n c3 zs :=
  ⟨(ho.block b h.box.lt (by have := h.hp; have := h.hw; have := h.hs; have := h.hb; omega)).trans h.box, h.site.keep fun i hi h1 _ => ho.block i hi (by have := h.hp; have := h.hw; omega), Only.own h.row ho (by have := h.hp; have := h.hw; have := h.hs; omega), hc, h.on.trans ho, h.hB, h.hp, h.hw, h.hs, h.hb⟩
theorem VisU.below (h : VisU B p s0 base b w W l a0 c0 t s a3 n c3 zs) (hb : Below W.heap.size W W') : VisU B p s0 base b w W' l a0 c0 t s a3 n c3 zs := h.only (Only.of_below hb) (h.cur.below hb)
theorem VisU.alloc (h : VisU B p s0 base b w W l a0 c0 t s a3 n c3 zs) (o : Obj) : VisU B p s0 base b w (W.alloc o) l a0 c0 t s a3 n c3 zs := h.below ((Below.refl _ _).alloc (Nat.le_refl _) _)
theorem VisU.drew (h : VisU B p s0 base b w W l a0 c0 t s a3 n c3 zs) : VisU B p s0 base b w W.drew l a0 c0 t s a3 n c3 zs := h.below (gbelow_drewN (Below.refl _ _) 1)
theorem VisU.appended (h : VisU B p s0 base b w W l a0 c0 t s a3 n c3 zs) {a' : Option Addr} {n' c' : Nat} {ys : List Int} (hr : OwnI .i64 3 base W' (.slice a' n' c') n' ys) (hb : Below base W W') (hk : ∀ i, i < W.heap.size → some i ≠ (Value.slice a3 n c3).ownBlock → W'.heap[i]? = W.heap[i]?) :
    Blk 27 b [.slice a0 l.length c0, .int .i64 t, .int .i64 s, .slice a3 n c3] W' ∧ Lies s0 base W' (dVersion l) (.slice a0 l.length c0) ∧ Cur 97 B p W' ∧ Only p w W' :=
  ⟨(hk b h.box.lt h.ne).trans h.box, h.site.keep fun i hi _ h2 => hb.block i h2, h.cur.under hb (by have := h.hp; have := h.hw; have := h.hs; omega), h.on.under hb (by have := h.hw; have := h.hs; omega)⟩
theorem VisU.set3 (h : VisU B p s0 base b w W l a0 c0 t s a3 n c3 zs) {a' : Option Addr} {n' c' : Nat} {ys : List Int} (hr : OwnI .i64 3 base W' (.slice a' n' c') n' ys) (hb : Below base W W') (hk : ∀ i, i < W.heap.size → some i ≠ (Value.slice a3 n c3).ownBlock → W'.heap[i]? = W.heap[i]?) :
    VisU B p s0 base b w (W'.setCell ⟨b, 3, none⟩ (.slice a' n' c')) l a0 c0 t s a' n' c' ys := by
  obtain ⟨q, hL, hc, ho⟩ := h.appended hr hb hk
  have h1 := h.hp
  have h2 := h.hw
  have h3 := h.hs
  have h4 := h.hb
  have h5 := h.hB
  have hq := q.set 3 (.slice a' n' c')
  simp only [List.set_cons_zero, List.set_cons_succ] at hq
  exact ⟨hq, hL.keep fun i hi _ h2' => heap_setCell_other _ _ i _ (by dsimp only; omega), ownI_other hr (a := ⟨b, 3, none⟩) (own_ne_blk hr q (by decide)) _, hc.only_new (a := ⟨b, 3, none⟩) (by dsimp only; omega) (by dsimp only; omega) _, ho.setNew (a := ⟨b, 3, none⟩) (by dsimp only; omega) _, h5, h1, h2, h3, h4⟩
theorem VisU.set1 (h : VisU B p s0 base b w W l a0 c0 t s a3 n c3 zs) (z : Int) : VisU B p s0 base b w (W.setCell ⟨b, 1, none⟩ (.int .i64 z)) l a0 c0 z s a3 n c3 zs := by
  have h1 := h.hp
  have h2 := h.hw
  have h3 := h.hs
  have h4 := h.hb
  have h5 := h.hB
  have hq := h.box.set 1 (.int .i64 z)
  simp only [List.set_cons_zero, List.set_cons_succ] at hq
  exact ⟨hq, h.site.keep fun i hi _ h2' => heap_setCell_other _ _ i _ (by dsimp only; omega), ownI_other h.row (a := ⟨b, 1, none⟩) h.ne _, h.cur.only_new (a := ⟨b, 1, none⟩) (by dsimp only; omega) (by dsimp only; omega) _, h.on.setNew (a := ⟨b, 1, none⟩) (by dsimp only; omega) _, h5, h1, h2, h3, h4⟩
theorem VisU.set2 (h : VisU B p s0 base b w W l a0 c0 t s a3 n c3 zs) (z : Int) : VisU B p s0 base b w (W.setCell ⟨b, 2, none⟩ (.int .i64 z)) l a0 c0 t z a3 n c3 zs := by
  have h1 := h.hp
  have h2 := h.hw
  have h3 := h.hs
  have h4 := h.hb
  have h5 := h.hB
  have hq := h.box.set 2 (.int .i64 z)
  simp only [List.set_cons_zero, List.set_cons_succ] at hq
  exact ⟨hq, h.site.keep fun i hi _ h2' => heap_setCell_other _ _ i _ (by dsimp only; omega), ownI_other h.row (a := ⟨b, 2, none⟩) h.ne _, h.cur.only_new (a := ⟨b, 2, none⟩) (by dsimp only; omega) (by dsimp only; omega) _, h.on.setNew (a := ⟨b, 2, none⟩) (by dsimp only; omega) _, h5, h1, h2, h3, h4⟩
/-- The inputs can be read. -/
theorem VisU.ints (h : VisU B p s0 base b w W l a0 c0 t s a3 n c3 zs) (ht : Tame zs) : Lies base W.heap.size W (ints zs) (.slice a3 n c3) ∧ zs.length = n := by
  obtain ⟨a', c', e, h1, h2, ho⟩ := OwnI.own h.row ht.wf
  injection e with e1 _ e3
  subst e1 e3
  have hl := OwnI.len h.row
  subst hl
  exact ⟨Owns.lies (Owns.of_row ho h1 h2 (S := Span base W.heap.size) fun t a b => ⟨a, b⟩) (fun t h => h), rfl⟩
end

theorem wpList_append_keep {P : Program} {ops : Array Oper} {rest : List Oper} {o : Oper} {a : Act} {w : World} {Q : Exit → Act → World → Prop} {k : IntKind} (hgd : o.guard = none) (s x : Operand) (t : TypeId)
    (ho : o.op = .call { callee := .builtin .append, args := #[s, x], argTypes := #[t, t] })
    (base e : Nat) (i : TypeInfo) (z : Value) (bytes : Nat) (ht : P.underlying t = some (.slice e)) (hi : P.info? e = some i) (hz : i.zero = some z)
    (hsize : i.size = 1) (hby : i.bytes = bytes) (hzs : z.cells.size = 1)
    (v : Value) (n : Nat) (xs : List Int) (hs : a.eval s = v) (hown : OwnI k e base w v n xs)
    (g c : Nat) (q : Int) (hx : a.eval x = .slice (some ⟨g, 0, none⟩) 1 c) (hr : w.cell? ⟨g, 0, none⟩ = some (.int k q))
    (h63 : n + 1 ≤ maxLen) (hbytes : (n + 1) * bytes ≤ 140737488355328) (hbase : base ≤ w.heap.size)
    (h : ∀ a' c' w', OwnI k e base w' (.slice a' (n + 1) c') (n + 1) (xs ++ [q]) → Below base w w' → (∀ b, b < w.heap.size → some b ≠ v.ownBlock → w'.heap[b]? = w.heap[b]?) → wpList P ops Q rest (a.put o.dst (.slice a' (n + 1) c')) w') : wpList P ops Q (o :: rest) a w := by
  refine wpList_append_own w hgd s x t ho base e i z 1 bytes ht hi hz hsize hby hzs (by omega) v n _ hs hown ⟨g, 0, none⟩ 1 c ([q].map (Value.int k)) hx rfl ?_ (ints_oneCell k [q]) h63 hbytes hbase ?_
  · intro j u hu
    cases j with
    | zero => simp at hu; subst hu; exact hr
    | succ j => simp at hu
  · intro v' w' h2 h3 _
    have h2' : OwnI k e base w' v' (n + 1) (xs ++ [q]) := by unfold OwnI; rw [List.map_append]; exact h2
    obtain ⟨a', c', rfl⟩ : ∃ a c, v' = .slice a (n + 1) c := by
      rcases h2'.2 with ⟨_, h0⟩ | ⟨g, cap, cur, rfl, _⟩
      · omega
      · exact ⟨_, _, rfl⟩
    exact h a' c' w' h2' (OwnI.grown hown h3 hbase) (fun b hb hne => h3.block b hb hne)
def inLen (b : Nat) (w : World) : Nat := match w.cell? ⟨b, 3, none⟩ with
  | some (.slice _ n _) => n
  | _ => 0
theorem inLen_at {b n c : Nat} {w : World} {a : Option Addr} (h : w.cell? ⟨b, 3, none⟩ = some (.slice a n c)) : inLen b w = n := by unfold inLen; rw [h]

/-- A visit in a box, to be read. -/
structure FinV (B p b : Nat) (w V : World) (l : List TVersion) (a0 : Option Addr) (c0 : Nat) (t s : Int) (a3 : Option Addr) (n c3 : Nat) (zs : List Int) : Prop where
  box : Blk 27 b [.slice a0 l.length c0, .int .i64 t, .int .i64 s, .slice a3 n c3] V
  site : Lies (w.heap.size + 1) V.heap.size V (dVersion l) (.slice a0 l.length c0)
  row : Lies (w.heap.size + 1) V.heap.size V (ints zs) (.slice a3 n c3)
  len : zs.length = n
  cur : Cur 97 B p V
  on : Only p w V
  ll : l.length ≤ 8
  br : Brief l
  ln : n ≤ 9
  wt : I64 t
  ws : I64 s
theorem VisU.fin {B p base b : Nat} {w W : World} {l : List TVersion} {a0 : Option Addr} {c0 : Nat} {t s : Int} {a3 : Option Addr} {n c3 : Nat} {zs : List Int} (h : VisU B p (w.heap.size + 1) base b w W l a0 c0 t s a3 n c3 zs) (ht : Tame zs) (ll : l.length ≤ 8) (br : Brief l) (ln : n ≤ 9) (wt : I64 t) (ws : I64 s) :
    FinV B p b w W l a0 c0 t s a3 n c3 zs := by
  obtain ⟨h1, h2⟩ := h.ints ht
  have hl := h.box.lt
  have hb := h.hb
  exact ⟨h.box, h.site.more (Nat.le_refl _) (by omega), h1.more h.hs (Nat.le_refl _), h2, h.cur, h.on, ll, br, ln, wt, ws⟩

/-- A drawn visit, to be read. -/
def IsVisR (B p : Nat) (w : World) (e : Ending) (w' : World) : Prop :=
  ∃ (P : TVisit) (a0 : Option Addr) (c0 : Nat) (a3 : Option Addr) (c3 : Nat), e = .returned (.agg #[.slice a0 P.f0.length c0, .int .i64 P.f1, .int .i64 P.f2, .slice a3 P.f3.length c3]) ∧ Lies w.heap.size w'.heap.size w' (dVersion P.f0) (.slice a0 P.f0.length c0) ∧ Lies w.heap.size w'.heap.size w' (ints P.f3) (.slice a3 P.f3.length c3) ∧
    P.f0.length ≤ 8 ∧ Brief P.f0 ∧ P.f3.length ≤ 9 ∧ I64 P.f1 ∧ I64 P.f2 ∧ Cur 97 B p w' ∧ Only p w w'

/-- A drawn visit, its inputs still a call's own. -/
def IsVisD (B p : Nat) (w : World) (e : Ending) (w' : World) : Prop :=
  ∃ (l : List TVersion) (a0 : Option Addr) (c0 : Nat) (t s : Int) (a3 : Option Addr) (n c3 : Nat) (zs : List Int) (base : Nat), e = .returned (.agg #[.slice a0 l.length c0, .int .i64 t, .int .i64 s, .slice a3 n c3]) ∧ Lies w.heap.size base w' (dVersion l) (.slice a0 l.length c0) ∧ OwnI .i64 3 base w' (.slice a3 n c3) n zs ∧
    w.heap.size ≤ base ∧ base ≤ w'.heap.size ∧ l.length ≤ 8 ∧ Brief l ∧ n ≤ 3 ∧ Tame zs ∧ I64 t ∧ I64 s ∧ Cur 97 B p w' ∧ Only p w w'

set_option maxHeartbeats 4000000 in
set_option maxRecDepth 100000 in
theorem draw12 (B p : Nat) (w : World) (hc : Cur 97 B p w) :
    Calls Try.prog 64 #[.pointer (some ⟨p, 0, none⟩)] w (IsVisD B p w) := by
  obtain ⟨i0, hi0, hz0, hz1, hz2⟩ := info_parts Nts.info
  have hpl := hc.lt
  have hBp := hc.1
  obtain ⟨W0, hW0⟩ : ∃ Z, w.alloc (.cells #[.slice none 0 0, .int .i64 0, .int .i64 0, .slice none 0 0] 27) = Z := ⟨_, rfl⟩
  have qR : Blk 27 w.heap.size [.slice none 0 0, .int .i64 0, .int .i64 0, .slice none 0 0] W0 := by rw [← hW0]; exact Blk.new _ [_, _, _, _] w
  have hA0 : Below w.heap.size w W0 := by rw [← hW0]; exact (Below.refl _ _).alloc (Nat.le_refl _) _
  have hc0 := hc.below hA0
  have hO0 : Only p w W0 := Only.of_below hA0
  have hs0 : W0.heap.size = w.heap.size + 1 := by rw [← hW0, gsize_alloc]
  have HW := Lib.hid hW0
  clear hW0 hA0 hc
  go_enter Try.func64, Try.ntmps64
  go_upto_region 1 with fail
  try rw [HW.out]
  go_wp2_with fail
  go_at_call 88
  refine (draw9 B p W0 hc0).mono ?_
  rintro e w1 ⟨v, l, rfl, hbuf, hlen, hsm, hc1, ho1⟩
  obtain ⟨a0, c0, rfl, _, _⟩ := hbuf.shape
  have hL1 : Lies W0.heap.size w1.heap.size w1 (dVersion l) (.slice a0 l.length c0) := Owns.lies hbuf.owns (fun t h => h)
  have hbr := Lib.hid (brief_small hsm)
  have hs1 := ho1.size
  have qR := ho1.block _ qR.lt (by omega) |>.trans qR
  replace qR : Blk 27 w.heap.size [.slice none 0 0, .int .i64 0, .int .i64 0, .slice none 0 0] w1 := qR
  have hO1 := hO0.trans ho1
  obtain ⟨m, hm⟩ : ∃ m, l.length = m := ⟨_, rfl⟩
  rw [hm] at hL1 hlen ⊢
  have HM := Lib.hid hm
  clear hbuf hsm hc0 ho1 hm hO0
  go_wp2_with fail
  go_at_call 65
  refine (below_any B p _ _ hc1 (by omega) (by omega)).mono ?_
  rintro e w2 ⟨⟨t, ht, rfl⟩, hc2, ho2⟩
  have ht12 : t < 12 := by simpa using ht
  have hs2 := ho2.size
  have qR := ho2.block _ qR.lt (by omega) |>.trans qR
  replace qR : Blk 27 w.heap.size [.slice none 0 0, .int .i64 0, .int .i64 0, .slice none 0 0] w2 := qR
  have hL2 := hL1.keep (w' := w2) fun i hi h1 _ => ho2.block i hi (by omega)
  have hO2 := hO1.trans ho2
  clear hc1 ho2 hL1 hO1
  go_wp2_with fail
  go_at_call 65
  refine (below_any B p _ _ hc2 (by omega) (by omega)).mono ?_
  rintro e w3 ⟨⟨s, hs, rfl⟩, hc3, ho3⟩
  have hs50 : s < 50 := by simpa using hs
  have hs3 := ho3.size
  have qR := ho3.block _ qR.lt (by omega) |>.trans qR
  replace qR : Blk 27 w.heap.size [.slice none 0 0, .int .i64 0, .int .i64 0, .slice none 0 0] w3 := qR
  have hL3 := hL2.keep (w' := w3) fun i hi h1 _ => ho3.block i hi (by omega)
  have hO3 := hO2.trans ho3
  clear hc2 ho3 hL2 hO2 ht hs
  obtain ⟨W4, hW4⟩ : ∃ Z, w3.alloc (.cells #[.slice a0 m c0, .int .i64 (t : Int), .int .i64 (s : Int), .slice none 0 0] 27) = Z := ⟨_, rfl⟩
  have qV : Blk 27 w3.heap.size [.slice a0 m c0, .int .i64 (t : Int), .int .i64 (s : Int), .slice none 0 0] W4 := by rw [← hW4]; exact Blk.new _ [_, _, _, _] w3
  have hA4 : Below w3.heap.size w3 W4 := by rw [← hW4]; exact (Below.refl _ _).alloc (Nat.le_refl _) _
  have hs4 : W4.heap.size = w3.heap.size + 1 := by rw [← hW4, gsize_alloc]
  have hvu : VisU B p W0.heap.size w3.heap.size w3.heap.size w W4 l a0 c0 (t : Int) (s : Int) none 0 0 [] :=
    ⟨by rw [HM.out]; exact qV, by rw [HM.out]; exact (hL3.below hA4).more (Nat.le_refl _) (by omega), ⟨by simp, .inl ⟨rfl, rfl⟩⟩, hc3.below hA4, hO3.trans (Only.of_below hA4), hBp, hpl, by omega, by omega, Nat.le_refl _⟩
  have qR := qR.below hA4
  have HW4 := Lib.hid hW4
  clear hW4 qV hA4 hL3 hc3 hO3
  go_upto_region 2 with fail
  try rw [HW4.out]
  obtain ⟨b, hb⟩ : ∃ b, w3.heap.size = b := ⟨_, rfl⟩
  rw [hb] at hvu hs4
  try simp only [hb]
  have hbw : w.heap.size + 1 ≤ b := by omega
  clear hb hs3
  go_wp2_with fail
  go_at_call 65
  refine (below_any B p _ _ hvu.cur (by omega) (by omega)).mono ?_
  rintro e w5 ⟨⟨x, hx, rfl⟩, hc5, ho5⟩
  have hx4 : x < 4 := by simpa using hx
  have hv5 := hvu.only ho5 hc5
  have qR5 := ho5.block _ qR.lt (by omega) |>.trans qR
  replace qR5 : Blk 27 w.heap.size [.slice none 0 0, .int .i64 0, .int .i64 0, .slice none 0 0] w5 := qR5
  have hz5 : b < w5.heap.size := hv5.box.lt
  clear hvu hc5 ho5 hx qR
  go_wp2_with fail
  go_loopw [4] (fun i wr => ∃ (j n c3 : Nat) (a3 : Option Addr) (zs : List Int), j ≤ x ∧ i = .int .i64 ((x - j : Nat) : Int) ∧ VisU B p W0.heap.size b b w wr l a0 c0 (t : Int) (s : Int) a3 n c3 zs ∧ n = j ∧ Hid (Tame zs) ∧ Blk 27 w.heap.size [.slice none 0 0, .int .i64 0, .int .i64 0, .slice none 0 0] wr) (fun i _ => (intOf i).toNat)
  case atStart => exact ⟨0, 0, 0, none, [], Nat.zero_le _, rfl, hv5, rfl, Lib.hid Tame.nil, qR5⟩
  case round =>
    obtain ⟨j, n, c3, a3, zs, hj, rfl, hv, hnj, htm, qR⟩ := hrel
    have HNJ := Lib.hid hnj
    have hn3 : n ≤ 3 := by omega
    clear hv5 qR5 hz5
    by_cases hlt : j < x
    · have hd : decide (((x - j : Nat) : Int) > 0) = true := by simp; omega
      have hd' : decide (0 < ((x - j : Nat) : Int)) = true := by simp; omega
      clear hnj
      go_upto_region 5 with fail
      obtain ⟨V4, hV4⟩ : ∃ V, wr.drew = V := ⟨_, rfl⟩
      have hv := hv.drew
      have qR := qR.drew
      rw [hV4] at hv qR
      refine wp_region_held_drew (S := (fun _ => True)) (by kernel_rfl) (trivial) (fun hHeld => ?_)
      rw [hV4]
      clear hV4
      refine wpAnyH_take (i := 0) (v := ?vd0) (List.getElem?_toArray.trans rfl) (by kernel_rfl) (by kernel_rfl) (by kernel_rfl) (fun _ _ _ h => h) (Or.inl ⟨by rfl, ?yd0⟩) (by assumption) ?rd0
      case yd0 => (intro w hSw; (try dsimp only at hSw); go_simp; try with_reducible rfl)
      try simp only [Act.put, List.setIfInBounds_toArray, List.set_cons_zero, List.set_cons_succ]
      refine wpAnyH_take (i := 2) (v := ?vd2) (List.getElem?_toArray.trans rfl) (by kernel_rfl) (by kernel_rfl) (by kernel_rfl) (fun _ _ _ h => h) (Or.inl ⟨by rfl, ?yd2⟩) (by assumption) ?rd2
      case yd2 => (intro w hSw; (try dsimp only at hSw); go_simp; try with_reducible rfl)
      try simp only [Act.put, List.setIfInBounds_toArray, List.set_cons_zero, List.set_cons_succ]
      refine wpAnyH_ready (rs := [1, 3]) (by kernel_rfl) (by simp) ?_
      refine (AllReadyH.cons (List.getElem?_toArray.trans rfl) (fun K hK => ?d1_1) (AllReadyH.cons (List.getElem?_toArray.trans rfl) (fun K hK => ?d1_3) AllReadyH.nil))
      case d1_1 =>
        have xl : V4.cell? ⟨b, 3, none⟩ = some (.slice a3 n c3) := hv.box.at rfl
        go_simp
        refine hK.out _ _ (trivial) (fun _ => ?_)
        clear hK K
        try simp only [Act.put, List.setIfInBounds_toArray, List.set_cons_zero, List.set_cons_succ]
        refine wpAnyH_ready (rs := [3]) (by kernel_rfl) (by simp) ?_
        refine AllReadyH.cons (List.getElem?_toArray.trans rfl) (fun K hK => ?_) AllReadyH.nil
        go_simp
        go_at_call 65
        refine (below_any B p _ _ hv.cur (by omega) (by omega)).mono ?_
        rintro e w6 ⟨⟨y, hy, rfl⟩, hc6, ho6⟩
        have hy9 : y < 9 := by simpa using hy
        have hv6 := hv.only ho6 hc6
        have qR6 : Blk 27 w.heap.size [.slice none 0 0, .int .i64 0, .int .i64 0, .slice none 0 0] w6 := (ho6.block _ qR.lt (by omega)).trans qR
        clear hc6 ho6 hy
        refine hK.out _ _ (trivial) (fun _ => ?_)
        clear hK K
        try simp only [Act.put, List.setIfInBounds_toArray, List.set_cons_zero, List.set_cons_succ]
        refine wpAnyH_ready (rs := [4]) (by kernel_rfl) (by simp) ?_
        refine AllReadyH.cons (List.getElem?_toArray.trans rfl) (fun K hK => ?_) AllReadyH.nil
        obtain ⟨V7, hV7⟩ : ∃ V, w6.alloc (.cells #[.int .i64 (y : Int)] 3) = V := ⟨_, rfl⟩
        obtain ⟨g7, hg7⟩ : ∃ g, w6.heap.size = g := ⟨_, rfl⟩
        have e7 : Blk 3 g7 [.int .i64 (y : Int)] V7 := by rw [← hV7, ← hg7]; exact Blk.new _ [_] w6
        have hv7 := hv6.alloc (.cells #[.int .i64 (y : Int)] 3)
        have qR7 := Blk.alloc qR6 (.cells #[.int .i64 (y : Int)] 3)
        rw [hV7] at hv7 qR7
        go_simp
        try rw [hV7]
        try rw [hg7]
        clear hV7 hg7
        refine hK.out _ _ (trivial) (fun _ => ?_)
        clear hK K
        try simp only [Act.put, List.setIfInBounds_toArray, List.set_cons_zero, List.set_cons_succ]
        refine wpAnyH_ready (rs := [5]) (by kernel_rfl) (by simp) ?_
        refine AllReadyH.cons (List.getElem?_toArray.trans rfl) (fun K hK => ?_) AllReadyH.nil
        refine step_append_keep rfl _ _ 25 rfl b 3 i0 _ 8 Try.underlying25 hi0 hz0 hz1 hz2 rfl _ n zs rfl hv7.row g7 1 (y : Int) rfl (e7.at rfl) (by unfold maxLen; omega) (by omega) (by have := hv7.box.lt; have := hv7.hb; omega) ?_
        intro a' c' w8 hr8 hb8 hk8
        have hq8 := (hv7.appended hr8 hb8 hk8).1
        have qR8 : Blk 27 w.heap.size [.slice none 0 0, .int .i64 0, .int .i64 0, .slice none 0 0] w8 := (hb8.block _ (by have := hv7.hw; have := hv7.hs; omega)).trans qR7
        refine hK.out _ _ (trivial) (fun _ => ?_)
        clear hK K
        try simp only [Act.put, List.setIfInBounds_toArray, List.set_cons_zero, List.set_cons_succ]
        refine wpAnyH_take (i := 6) (v := ?vdl5_6) (List.getElem?_toArray.trans rfl) (by kernel_rfl) (by kernel_rfl) (by kernel_rfl) (fun _ _ _ h => h) (Or.inl ⟨by rfl, ?ydl5_6⟩) (by assumption) ?rdl5_6
        case ydl5_6 => (intro w hSw; (try dsimp only at hSw); go_simp; try with_reducible rfl)
        try simp only [Act.put, List.setIfInBounds_toArray, List.set_cons_zero, List.set_cons_succ]
        refine wpAnyH_ready (rs := [7]) (by kernel_rfl) (by simp) ?_
        refine AllReadyH.cons (List.getElem?_toArray.trans rfl) (fun K hK => ?_) AllReadyH.nil
        have hf9 := hq8.free 3
        have hc9 : w8.cell? ⟨b, 3, none⟩ = some (.slice a3 n c3) := hq8.at rfl
        have hv8 := hv7.set3 hr8 hb8 hk8
        have qR8 := qR8.other (a := ⟨b, 3, none⟩) (.slice a' (n + 1) c') (by dsimp only; omega)
        go_simp
        refine hK.out _ _ (trivial) (fun _ => ?_)
        clear hK K
        try simp only [Act.put, List.setIfInBounds_toArray, List.set_cons_zero, List.set_cons_succ]
        refine wpAnyH_done (by kernel_rfl) ?_ _
        go_wp2_with fail
        go_roundw
        case rel => exact ⟨j + 1, n + 1, c', a', zs ++ [(y : Int)], by omega, by go_num, hv8, by rw [HNJ.out], Lib.hid (htm.out.snoc (by unfold I64; omega)), qR8⟩
        case measure => simp [intOf]; omega
      case d1_3 =>
        go_simp
        go_at_call 65
        refine (below_any B p _ _ hv.cur (by omega) (by omega)).mono ?_
        rintro e w6 ⟨⟨y, hy, rfl⟩, hc6, ho6⟩
        have hy9 : y < 9 := by simpa using hy
        have hv6 := hv.only ho6 hc6
        have qR6 : Blk 27 w.heap.size [.slice none 0 0, .int .i64 0, .int .i64 0, .slice none 0 0] w6 := (ho6.block _ qR.lt (by omega)).trans qR
        clear hc6 ho6 hy
        refine hK.out _ _ (trivial) (fun _ => ?_)
        clear hK K
        try simp only [Act.put, List.setIfInBounds_toArray, List.set_cons_zero, List.set_cons_succ]
        refine wpAnyH_ready (rs := [1, 4]) (by kernel_rfl) (by simp) ?_
        refine (AllReadyH.cons (List.getElem?_toArray.trans rfl) (fun K hK => ?d7_1) (AllReadyH.cons (List.getElem?_toArray.trans rfl) (fun K hK => ?d7_4) AllReadyH.nil))
        case d7_1 =>
          have xl : w6.cell? ⟨b, 3, none⟩ = some (.slice a3 n c3) := hv6.box.at rfl
          go_simp
          refine hK.out _ _ (trivial) (fun _ => ?_)
          clear hK K
          try simp only [Act.put, List.setIfInBounds_toArray, List.set_cons_zero, List.set_cons_succ]
          refine wpAnyH_ready (rs := [4]) (by kernel_rfl) (by simp) ?_
          refine AllReadyH.cons (List.getElem?_toArray.trans rfl) (fun K hK => ?_) AllReadyH.nil
          obtain ⟨V7, hV7⟩ : ∃ V, w6.alloc (.cells #[.int .i64 (y : Int)] 3) = V := ⟨_, rfl⟩
          obtain ⟨g7, hg7⟩ : ∃ g, w6.heap.size = g := ⟨_, rfl⟩
          have e7 : Blk 3 g7 [.int .i64 (y : Int)] V7 := by rw [← hV7, ← hg7]; exact Blk.new _ [_] w6
          have hv7 := hv6.alloc (.cells #[.int .i64 (y : Int)] 3)
          have qR7 := Blk.alloc qR6 (.cells #[.int .i64 (y : Int)] 3)
          rw [hV7] at hv7 qR7
          go_simp
          try rw [hV7]
          try rw [hg7]
          clear hV7 hg7
          refine hK.out _ _ (trivial) (fun _ => ?_)
          clear hK K
          try simp only [Act.put, List.setIfInBounds_toArray, List.set_cons_zero, List.set_cons_succ]
          refine wpAnyH_ready (rs := [5]) (by kernel_rfl) (by simp) ?_
          refine AllReadyH.cons (List.getElem?_toArray.trans rfl) (fun K hK => ?_) AllReadyH.nil
          refine step_append_keep rfl _ _ 25 rfl b 3 i0 _ 8 Try.underlying25 hi0 hz0 hz1 hz2 rfl _ n zs rfl hv7.row g7 1 (y : Int) rfl (e7.at rfl) (by unfold maxLen; omega) (by omega) (by have := hv7.box.lt; have := hv7.hb; omega) ?_
          intro a' c' w8 hr8 hb8 hk8
          have hq8 := (hv7.appended hr8 hb8 hk8).1
          have qR8 : Blk 27 w.heap.size [.slice none 0 0, .int .i64 0, .int .i64 0, .slice none 0 0] w8 := (hb8.block _ (by have := hv7.hw; have := hv7.hs; omega)).trans qR7
          refine hK.out _ _ (trivial) (fun _ => ?_)
          clear hK K
          try simp only [Act.put, List.setIfInBounds_toArray, List.set_cons_zero, List.set_cons_succ]
          refine wpAnyH_take (i := 6) (v := ?vdl10_6) (List.getElem?_toArray.trans rfl) (by kernel_rfl) (by kernel_rfl) (by kernel_rfl) (fun _ _ _ h => h) (Or.inl ⟨by rfl, ?ydl10_6⟩) (by assumption) ?rdl10_6
          case ydl10_6 => (intro w hSw; (try dsimp only at hSw); go_simp; try with_reducible rfl)
          try simp only [Act.put, List.setIfInBounds_toArray, List.set_cons_zero, List.set_cons_succ]
          refine wpAnyH_ready (rs := [7]) (by kernel_rfl) (by simp) ?_
          refine AllReadyH.cons (List.getElem?_toArray.trans rfl) (fun K hK => ?_) AllReadyH.nil
          have hf9 := hq8.free 3
          have hc9 : w8.cell? ⟨b, 3, none⟩ = some (.slice a3 n c3) := hq8.at rfl
          have hv8 := hv7.set3 hr8 hb8 hk8
          have qR8 := qR8.other (a := ⟨b, 3, none⟩) (.slice a' (n + 1) c') (by dsimp only; omega)
          go_simp
          refine hK.out _ _ (trivial) (fun _ => ?_)
          clear hK K
          try simp only [Act.put, List.setIfInBounds_toArray, List.set_cons_zero, List.set_cons_succ]
          refine wpAnyH_done (by kernel_rfl) ?_ _
          go_wp2_with fail
          go_roundw
          case rel => exact ⟨j + 1, n + 1, c', a', zs ++ [(y : Int)], by omega, by go_num, hv8, by rw [HNJ.out], Lib.hid (htm.out.snoc (by unfold I64; omega)), qR8⟩
          case measure => simp [intOf]; omega
        case d7_4 =>
          obtain ⟨V7, hV7⟩ : ∃ V, w6.alloc (.cells #[.int .i64 (y : Int)] 3) = V := ⟨_, rfl⟩
          obtain ⟨g7, hg7⟩ : ∃ g, w6.heap.size = g := ⟨_, rfl⟩
          have e7 : Blk 3 g7 [.int .i64 (y : Int)] V7 := by rw [← hV7, ← hg7]; exact Blk.new _ [_] w6
          have hv7 := hv6.alloc (.cells #[.int .i64 (y : Int)] 3)
          have qR7 := Blk.alloc qR6 (.cells #[.int .i64 (y : Int)] 3)
          rw [hV7] at hv7 qR7
          go_simp
          try rw [hV7]
          try rw [hg7]
          clear hV7 hg7
          refine hK.out _ _ (trivial) (fun _ => ?_)
          clear hK K
          try simp only [Act.put, List.setIfInBounds_toArray, List.set_cons_zero, List.set_cons_succ]
          refine wpAnyH_ready (rs := [1]) (by kernel_rfl) (by simp) ?_
          refine AllReadyH.cons (List.getElem?_toArray.trans rfl) (fun K hK => ?_) AllReadyH.nil
          have xl : V7.cell? ⟨b, 3, none⟩ = some (.slice a3 n c3) := hv7.box.at rfl
          go_simp
          refine hK.out _ _ (trivial) (fun _ => ?_)
          clear hK K
          try simp only [Act.put, List.setIfInBounds_toArray, List.set_cons_zero, List.set_cons_succ]
          refine wpAnyH_ready (rs := [5]) (by kernel_rfl) (by simp) ?_
          refine AllReadyH.cons (List.getElem?_toArray.trans rfl) (fun K hK => ?_) AllReadyH.nil
          refine step_append_keep rfl _ _ 25 rfl b 3 i0 _ 8 Try.underlying25 hi0 hz0 hz1 hz2 rfl _ n zs rfl hv7.row g7 1 (y : Int) rfl (e7.at rfl) (by unfold maxLen; omega) (by omega) (by have := hv7.box.lt; have := hv7.hb; omega) ?_
          intro a' c' w8 hr8 hb8 hk8
          have hq8 := (hv7.appended hr8 hb8 hk8).1
          have qR8 : Blk 27 w.heap.size [.slice none 0 0, .int .i64 0, .int .i64 0, .slice none 0 0] w8 := (hb8.block _ (by have := hv7.hw; have := hv7.hs; omega)).trans qR7
          refine hK.out _ _ (trivial) (fun _ => ?_)
          clear hK K
          try simp only [Act.put, List.setIfInBounds_toArray, List.set_cons_zero, List.set_cons_succ]
          refine wpAnyH_take (i := 6) (v := ?vdl14_6) (List.getElem?_toArray.trans rfl) (by kernel_rfl) (by kernel_rfl) (by kernel_rfl) (fun _ _ _ h => h) (Or.inl ⟨by rfl, ?ydl14_6⟩) (by assumption) ?rdl14_6
          case ydl14_6 => (intro w hSw; (try dsimp only at hSw); go_simp; try with_reducible rfl)
          try simp only [Act.put, List.setIfInBounds_toArray, List.set_cons_zero, List.set_cons_succ]
          refine wpAnyH_ready (rs := [7]) (by kernel_rfl) (by simp) ?_
          refine AllReadyH.cons (List.getElem?_toArray.trans rfl) (fun K hK => ?_) AllReadyH.nil
          have hf9 := hq8.free 3
          have hc9 : w8.cell? ⟨b, 3, none⟩ = some (.slice a3 n c3) := hq8.at rfl
          have hv8 := hv7.set3 hr8 hb8 hk8
          have qR8 := qR8.other (a := ⟨b, 3, none⟩) (.slice a' (n + 1) c') (by dsimp only; omega)
          go_simp
          refine hK.out _ _ (trivial) (fun _ => ?_)
          clear hK K
          try simp only [Act.put, List.setIfInBounds_toArray, List.set_cons_zero, List.set_cons_succ]
          refine wpAnyH_done (by kernel_rfl) ?_ _
          go_wp2_with fail
          go_roundw
          case rel => exact ⟨j + 1, n + 1, c', a', zs ++ [(y : Int)], by omega, by go_num, hv8, by rw [HNJ.out], Lib.hid (htm.out.snoc (by unfold I64; omega)), qR8⟩
          case measure => simp [intOf]; omega
    · have hE := Lib.hid (show x - j = 0 by omega)
      have hd : decide (((x - j : Nat) : Int) > 0) = false := by simp; omega
      have hd' : decide (0 < ((x - j : Nat) : Int)) = false := by simp; omega
      clear hnj
      have qB := hv.box
      rw [HM.out] at qB
      have x0 : wr.cell? ⟨b, 0, none⟩ = some (.slice a0 m c0) := qB.at rfl
      have x1 : wr.cell? ⟨b, 1, none⟩ = some (.int .i64 (t : Int)) := qB.at rfl
      have x2 : wr.cell? ⟨b, 2, none⟩ = some (.int .i64 (s : Int)) := qB.at rfl
      have x3 : wr.cell? ⟨b, 3, none⟩ = some (.slice a3 n c3) := qB.at rfl
      have z0 : wr.cell? ⟨w.heap.size, 0, none⟩ = some (.slice none 0 0) := qR.at rfl
      have f0 := qR.free 0
      have z1 : wr.cell? ⟨w.heap.size, 1, none⟩ = some (.int .i64 0) := qR.at rfl
      have f1 := qR.free 1
      have z2 : wr.cell? ⟨w.heap.size, 2, none⟩ = some (.int .i64 0) := qR.at rfl
      have f2 := qR.free 2
      have z3 : wr.cell? ⟨w.heap.size, 3, none⟩ = some (.slice none 0 0) := qR.at rfl
      have f3 := qR.free 3
      obtain ⟨VF, hVF⟩ : ∃ V, (((wr.setCell ⟨w.heap.size, 0, none⟩ (.slice a0 m c0)).setCell ⟨w.heap.size, 1, none⟩ (.int .i64 (t : Int))).setCell ⟨w.heap.size, 2, none⟩ (.int .i64 (s : Int))).setCell ⟨w.heap.size, 3, none⟩ (.slice a3 n c3) = V := ⟨_, rfl⟩
      have qF := (((qR.set 0 (.slice a0 m c0)).set 1 (.int .i64 (t : Int))).set 2 (.int .i64 (s : Int))).set 3 (.slice a3 n c3)
      simp only [List.set_cons_zero, List.set_cons_succ] at qF
      have hkF : ∀ i, i ≠ w.heap.size → VF.heap[i]? = wr.heap[i]? := fun i hne => by rw [← hVF, heap_setCell_other _ _ i _ (by dsimp only; omega), heap_setCell_other _ _ i _ (by dsimp only; omega), heap_setCell_other _ _ i _ (by dsimp only; omega), heap_setCell_other _ _ i _ (by dsimp only; omega)]
      have hsF : VF.heap.size = wr.heap.size := by rw [← hVF]; simp only [gsize_set]
      have hcF := (((hv.cur.only_new (a := ⟨w.heap.size, 0, none⟩) (by dsimp only; omega) (by dsimp only; omega) (.slice a0 m c0)).only_new (a := ⟨w.heap.size, 1, none⟩) (by dsimp only; omega) (by dsimp only; omega) (.int .i64 (t : Int))).only_new (a := ⟨w.heap.size, 2, none⟩) (by dsimp only; omega) (by dsimp only; omega) (.int .i64 (s : Int))).only_new (a := ⟨w.heap.size, 3, none⟩) (by dsimp only; omega) (by dsimp only; omega) (.slice a3 n c3)
      have hOF := (((hv.on.setNew (a := ⟨w.heap.size, 0, none⟩) (Nat.le_refl _) (.slice a0 m c0)).setNew (a := ⟨w.heap.size, 1, none⟩) (Nat.le_refl _) (.int .i64 (t : Int))).setNew (a := ⟨w.heap.size, 2, none⟩) (Nat.le_refl _) (.int .i64 (s : Int))).setNew (a := ⟨w.heap.size, 3, none⟩) (Nat.le_refl _) (.slice a3 n c3)
      have hrF := ownI_old (ownI_old (ownI_old (ownI_old hv.row (a := ⟨w.heap.size, 0, none⟩) (by dsimp only; omega) (.slice a0 m c0)) (a := ⟨w.heap.size, 1, none⟩) (by dsimp only; omega) (.int .i64 (t : Int))) (a := ⟨w.heap.size, 2, none⟩) (by dsimp only; omega) (.int .i64 (s : Int))) (a := ⟨w.heap.size, 3, none⟩) (by dsimp only; omega) (.slice a3 n c3)
      rw [hVF] at qF hcF hOF hrF
      have hLF := hv.site.keep (w' := VF) fun i _ h1 _ => hkF i (by omega)
      have hbl := hv.box.lt
      have g0 : VF.cell? ⟨w.heap.size, 0, none⟩ = some (.slice a0 m c0) := qF.at rfl
      have g1 : VF.cell? ⟨w.heap.size, 1, none⟩ = some (.int .i64 (t : Int)) := qF.at rfl
      have g2 : VF.cell? ⟨w.heap.size, 2, none⟩ = some (.int .i64 (s : Int)) := qF.at rfl
      have g3 : VF.cell? ⟨w.heap.size, 3, none⟩ = some (.slice a3 n c3) := qF.at rfl
      have HVF := Lib.hid hVF
      have HLF := Lib.hid hLF
      clear hVF hLF qF qR qB hkF
      go_wp2
      rw [HVF.out]
      refine bodyPost_ret (v := .agg #[.slice a0 m c0, .int .i64 (t : Int), .int .i64 (s : Int), .slice a3 n c3]) (by simp [results, Try.results64, go_sem, g0, g1, g2, g3]) rfl ?_
      have hlm := HM.out
      subst hlm
      exact ⟨l, a0, c0, (t : Int), (s : Int), a3, n, c3, zs, b, rfl, HLF.out.more (by omega) (Nat.le_refl _), hrF, by omega, by omega, hlen, hbr.out, hn3, htm.out, by unfold I64; omega, by unfold I64; omega, hcF, hOF⟩

set_option maxHeartbeats 8000000 in
set_option maxRecDepth 100000 in
theorem any12 (B p : Nat) (w : World) (hc : Cur 97 B p w) :
    Calls Try.prog 32 #[.pointer (some ⟨p, 0, none⟩)] w (IsVisR B p w) := by
  obtain ⟨i0, hi0, hz0, hz1, hz2⟩ := info_parts Nts.info
  have hpl := hc.lt
  have hBp := hc.1
  obtain ⟨W0, hW0⟩ : ∃ Z, w.alloc (.cells #[.slice none 0 0, .int .i64 0, .int .i64 0, .slice none 0 0] 27) = Z := ⟨_, rfl⟩
  have qR : Blk 27 w.heap.size [.slice none 0 0, .int .i64 0, .int .i64 0, .slice none 0 0] W0 := by rw [← hW0]; exact Blk.new _ [_, _, _, _] w
  have hA0 : Below w.heap.size w W0 := by rw [← hW0]; exact (Below.refl _ _).alloc (Nat.le_refl _) _
  have hc0 := hc.below hA0
  have hO0 : Only p w W0 := Only.of_below hA0
  have hs0 : W0.heap.size = w.heap.size + 1 := by rw [← hW0, gsize_alloc]
  have HW := Lib.hid hW0
  clear hW0 hA0 hc
  go_enter Try.func32, Try.ntmps32
  go_upto_region 1 with fail
  try rw [HW.out]
  go_wp2_with fail
  go_at_call 64
  refine (draw12 B p W0 hc0).mono ?_
  rintro e w1 ⟨l, a0, c0, t, s, a3, n, c3, zs, base, rfl, hL1, hr1, hb0, hb1, hll, hbr, hn3, htm, ht, hs, hc1, ho1⟩
  rw [hs0] at hL1 hb0
  have hs1 := ho1.size
  have qR : Blk 27 w.heap.size [.slice none 0 0, .int .i64 0, .int .i64 0, .slice none 0 0] w1 := (ho1.block _ qR.lt (by omega)).trans qR
  have hO1 := hO0.trans ho1
  obtain ⟨W2, hW2⟩ : ∃ Z, w1.alloc (.cells #[.slice a0 l.length c0, .int .i64 t, .int .i64 s, .slice a3 n c3] 27) = Z := ⟨_, rfl⟩
  have qV : Blk 27 w1.heap.size [.slice a0 l.length c0, .int .i64 t, .int .i64 s, .slice a3 n c3] W2 := by rw [← hW2]; exact Blk.new _ [_, _, _, _] w1
  have hA2 : Below w1.heap.size w1 W2 := by rw [← hW2]; exact (Below.refl _ _).alloc (Nat.le_refl _) _
  have hr2 := hr1.alloc (.cells #[.slice a0 l.length c0, .int .i64 t, .int .i64 s, .slice a3 n c3] 27)
  rw [hW2] at hr2
  have hvu : VisU B p (w.heap.size + 1) base w1.heap.size w W2 l a0 c0 t s a3 n c3 zs :=
    ⟨qV, hL1.below hA2, hr2, hc1.below hA2, hO1.trans (Only.of_below hA2), hBp, hpl, by omega, by omega, hb1⟩
  have qR := qR.below hA2
  have HW2 := Lib.hid hW2
  have hll := Lib.hid hll
  have hbr := Lib.hid hbr
  have htm := Lib.hid htm
  clear hW2 qV hA2 hL1 hr1 hr2 hc1 ho1 hO1 hc0 hO0
  obtain ⟨m, hm⟩ : ∃ m, l.length = m := ⟨_, rfl⟩
  rw [hm] at HW2 ⊢
  have HM := Lib.hid hm
  clear hm
  go_upto_region 2 with fail
  try rw [HW2.out]
  obtain ⟨b, hb⟩ : ∃ b, w1.heap.size = b := ⟨_, rfl⟩
  rw [hb] at hvu
  try simp only [hb]
  have hbw : w.heap.size + 1 ≤ b := by omega
  clear hb HW2 HW hs1
  go_wp2_with fail
  go_at_call 65
  refine (below_any B p _ _ hvu.cur (by omega) (by omega)).mono ?_
  rintro e w3 ⟨⟨k, hk, rfl⟩, hc3, ho3⟩
  have hv := hvu.only ho3 hc3
  have qR : Blk 27 w.heap.size [.slice none 0 0, .int .i64 0, .int .i64 0, .slice none 0 0] w3 := (ho3.block _ qR.lt (by omega)).trans qR
  have hbl := hv.box.lt
  clear hvu hc3 ho3 hk
  go_upto_block 0 with fail
  go_cut [3] (fun sl wx => sl = .pointer (some ⟨b, 0, none⟩) ∧ ∃ (V : World) (l : List TVersion) (a0 : Option Addr) (c0 : Nat) (t s : Int) (a3 : Option Addr) (n c3 : Nat) (zs : List Int), V = wx ∧ FinV B p b w V l a0 c0 t s a3 n c3 zs ∧ Blk 27 w.heap.size [.slice none 0 0, .int .i64 0, .int .i64 0, .slice none 0 0] V)
  case first =>
    by_cases k0 : k = 0
    · subst k0
      go_wp2_with fail
      go_at_call 34
      refine (int_new B p [-1, 1000, 1001] _ _ _ rfl _ _ rfl hv.cur (by decide) (by decide)).mono ?_
      rintro e w4 ⟨⟨z, hz, rfl⟩, hc4, ho4⟩
      have hz' : I64 z := by simp at hz; unfold I64; omega
      have hv4 := hv.only ho4 hc4
      have qR4 : Blk 27 w.heap.size [.slice none 0 0, .int .i64 0, .int .i64 0, .slice none 0 0] w4 := (ho4.block _ qR.lt (by omega)).trans qR
      have hc1' : w4.cell? ⟨b, 1, none⟩ = some (.int .i64 t) := hv4.box.at rfl
      have hf1 := hv4.box.free 1
      have hfin := Lib.hid ((hv4.set1 z).fin htm.out hll.out hbr.out (by omega) hz' hs)
      have qF := qR4.other (a := ⟨b, 1, none⟩) (.int .i64 z) (by dsimp only; omega)
      clear hv4 qR4 hv qR
      go_wp2_with fail
      go_meet
      case rel => exact ⟨rfl, _, _, _, _, _, _, _, _, _, _, rfl, hfin.out, qF⟩
    have e0 : ((k : Int) == 0) = false := by simp; omega
    by_cases k1 : k = 1
    · subst k1
      go_wp2_with fail
      go_at_call 34
      refine (int_new B p [-1, 9999, 10000] _ _ _ rfl _ _ rfl hv.cur (by decide) (by decide)).mono ?_
      rintro e w4 ⟨⟨z, hz, rfl⟩, hc4, ho4⟩
      have hz' : I64 z := by simp at hz; unfold I64; omega
      have hv4 := hv.only ho4 hc4
      have qR4 : Blk 27 w.heap.size [.slice none 0 0, .int .i64 0, .int .i64 0, .slice none 0 0] w4 := (ho4.block _ qR.lt (by omega)).trans qR
      have hc1' : w4.cell? ⟨b, 2, none⟩ = some (.int .i64 s) := hv4.box.at rfl
      have hf1 := hv4.box.free 2
      have hfin := Lib.hid ((hv4.set2 z).fin htm.out hll.out hbr.out (by omega) ht hz')
      have qF := qR4.other (a := ⟨b, 2, none⟩) (.int .i64 z) (by dsimp only; omega)
      clear hv4 qR4 hv qR
      go_wp2_with fail
      go_meet
      case rel => exact ⟨rfl, _, _, _, _, _, _, _, _, _, _, rfl, hfin.out, qF⟩
    have e1 : ((k : Int) == 1) = false := by simp; omega
    by_cases k2 : k = 2
    · subst k2
      go_upto_region 8 with fail
      obtain ⟨V4, hV4⟩ : ∃ V, w3.drew = V := ⟨_, rfl⟩
      have hv := hv.drew
      have qR := qR.drew
      rw [hV4] at hv qR
      refine wp_region_held_drew (S := (fun _ => True)) (by kernel_rfl) (trivial) (fun hHeld => ?_)
      rw [hV4]
      clear hV4
      refine wpAnyH_take (i := 0) (v := ?ve0) (List.getElem?_toArray.trans rfl) (by kernel_rfl) (by kernel_rfl) (by kernel_rfl) (fun _ _ _ h => h) (Or.inl ⟨by rfl, ?ye0⟩) (by assumption) ?re0
      case ye0 => (intro w hSw; (try dsimp only at hSw); go_simp; try with_reducible rfl)
      try simp only [Act.put, List.setIfInBounds_toArray, List.set_cons_zero, List.set_cons_succ]
      refine wpAnyH_take (i := 2) (v := ?ve2) (List.getElem?_toArray.trans rfl) (by kernel_rfl) (by kernel_rfl) (by kernel_rfl) (fun _ _ _ h => h) (Or.inl ⟨by rfl, ?ye2⟩) (by assumption) ?re2
      case ye2 => (intro w hSw; (try dsimp only at hSw); go_simp; try with_reducible rfl)
      try simp only [Act.put, List.setIfInBounds_toArray, List.set_cons_zero, List.set_cons_succ]
      refine wpAnyH_ready (rs := [1, 3]) (by kernel_rfl) (by simp) ?_
      refine (AllReadyH.cons (List.getElem?_toArray.trans rfl) (fun K hK => ?e1_1) (AllReadyH.cons (List.getElem?_toArray.trans rfl) (fun K hK => ?e1_3) AllReadyH.nil))
      case e1_1 =>
        have xl : V4.cell? ⟨b, 3, none⟩ = some (.slice a3 n c3) := hv.box.at rfl
        go_simp
        refine hK.out _ _ (trivial) (fun _ => ?_)
        clear hK K
        try simp only [Act.put, List.setIfInBounds_toArray, List.set_cons_zero, List.set_cons_succ]
        refine wpAnyH_ready (rs := [3]) (by kernel_rfl) (by simp) ?_
        refine AllReadyH.cons (List.getElem?_toArray.trans rfl) (fun K hK => ?_) AllReadyH.nil
        obtain ⟨V5, hV5⟩ : ∃ V, V4.alloc (.cells #[.int .i64 (-1), .int .i64 999, .int .i64 1000] 3) = V := ⟨_, rfl⟩
        obtain ⟨g5, hg5⟩ : ∃ g, V4.heap.size = g := ⟨_, rfl⟩
        have q5 : Blk 3 g5 [.int .i64 (-1), .int .i64 999, .int .i64 1000] V5 := by rw [← hV5, ← hg5]; exact Blk.new _ [_, _, _] V4
        have e5 : ∀ j (h : j < [(-1 : Int), 999, 1000].length), V5.cell? ⟨g5, j, none⟩ = some (.int .i64 [(-1 : Int), 999, 1000][j]) := fun j hj => by
          have hj3 : j = 0 ∨ j = 1 ∨ j = 2 := by simp at hj; omega
          rcases hj3 with rfl | rfl | rfl <;> exact q5.at rfl
        have hv5 := hv.alloc (.cells #[.int .i64 (-1), .int .i64 999, .int .i64 1000] 3)
        have qR5 := Blk.alloc qR (.cells #[.int .i64 (-1), .int .i64 999, .int .i64 1000] 3)
        rw [hV5] at hv5 qR5
        have hg5p : g5 ≠ p := by have := hv.cur.lt; omega
        go_simp
        try rw [hV5]
        try rw [hg5]
        clear hV5 hg5
        refine hK.out _ _ (trivial) (fun _ => ?_)
        clear hK K
        try simp only [Act.put, List.setIfInBounds_toArray, List.set_cons_zero, List.set_cons_succ]
        refine wpAnyH_ready (rs := [4]) (by kernel_rfl) (by simp) ?_
        refine AllReadyH.cons (List.getElem?_toArray.trans rfl) (fun K hK => ?_) AllReadyH.nil
        go_simp
        go_at_call 34
        refine (int_any B p g5 3 [-1, 999, 1000] V5 hv5.cur (by omega) e5 (by decide) (by decide)).mono ?_
        rintro e w6 ⟨⟨z, hz, rfl⟩, hc6, ho6⟩
        have hz' : I64 z := by simp at hz; unfold I64; omega
        have hv6 := hv5.only ho6 hc6
        have qR6 : Blk 27 w.heap.size [.slice none 0 0, .int .i64 0, .int .i64 0, .slice none 0 0] w6 := (ho6.block _ (Blk.lt qR5) (by omega)).trans qR5
        clear hc6 ho6 hz
        refine hK.out _ _ (trivial) (fun _ => ?_)
        clear hK K
        try simp only [Act.put, List.setIfInBounds_toArray, List.set_cons_zero, List.set_cons_succ]
        refine wpAnyH_ready (rs := [5]) (by kernel_rfl) (by simp) ?_
        refine AllReadyH.cons (List.getElem?_toArray.trans rfl) (fun K hK => ?_) AllReadyH.nil
        obtain ⟨V7, hV7⟩ : ∃ V, w6.alloc (.cells #[.int .i64 z] 3) = V := ⟨_, rfl⟩
        obtain ⟨g7, hg7⟩ : ∃ g, w6.heap.size = g := ⟨_, rfl⟩
        have e7 : Blk 3 g7 [.int .i64 z] V7 := by rw [← hV7, ← hg7]; exact Blk.new _ [_] w6
        have hv7 := hv6.alloc (.cells #[.int .i64 z] 3)
        have qR7 := Blk.alloc qR6 (.cells #[.int .i64 z] 3)
        rw [hV7] at hv7 qR7
        go_simp
        try rw [hV7]
        try rw [hg7]
        clear hV7 hg7
        refine hK.out _ _ (trivial) (fun _ => ?_)
        clear hK K
        try simp only [Act.put, List.setIfInBounds_toArray, List.set_cons_zero, List.set_cons_succ]
        refine wpAnyH_ready (rs := [6]) (by kernel_rfl) (by simp) ?_
        refine AllReadyH.cons (List.getElem?_toArray.trans rfl) (fun K hK => ?_) AllReadyH.nil
        refine step_append_keep rfl _ _ 25 rfl base 3 i0 _ 8 Try.underlying25 hi0 hz0 hz1 hz2 rfl _ n zs rfl hv7.row g7 1 z rfl (e7.at rfl) (by unfold maxLen; omega) (by omega) (by have := hv7.box.lt; have := hv7.hb; omega) ?_
        intro a' c' w8 hr8 hb8 hk8
        have hq8 := (hv7.appended hr8 hb8 hk8).1
        have qR8 : Blk 27 w.heap.size [.slice none 0 0, .int .i64 0, .int .i64 0, .slice none 0 0] w8 := (hb8.block _ (by have := hv7.hw; have := hv7.hs; omega)).trans qR7
        refine hK.out _ _ (trivial) (fun _ => ?_)
        clear hK K
        try simp only [Act.put, List.setIfInBounds_toArray, List.set_cons_zero, List.set_cons_succ]
        refine wpAnyH_take (i := 7) (v := ?vel6_7) (List.getElem?_toArray.trans rfl) (by kernel_rfl) (by kernel_rfl) (by kernel_rfl) (fun _ _ _ h => h) (Or.inl ⟨by rfl, ?yel6_7⟩) (by assumption) ?rel6_7
        case yel6_7 => (intro w hSw; (try dsimp only at hSw); go_simp; try with_reducible rfl)
        try simp only [Act.put, List.setIfInBounds_toArray, List.set_cons_zero, List.set_cons_succ]
        refine wpAnyH_ready (rs := [8]) (by kernel_rfl) (by simp) ?_
        refine AllReadyH.cons (List.getElem?_toArray.trans rfl) (fun K hK => ?_) AllReadyH.nil
        have hf9 := hq8.free 3
        have hc9 : w8.cell? ⟨b, 3, none⟩ = some (.slice a3 n c3) := hq8.at rfl
        have hv8 := hv7.set3 hr8 hb8 hk8
        have qR8 := qR8.other (a := ⟨b, 3, none⟩) (.slice a' (n + 1) c') (by dsimp only; omega)
        go_simp
        refine hK.out _ _ (trivial) (fun _ => ?_)
        clear hK K
        try simp only [Act.put, List.setIfInBounds_toArray, List.set_cons_zero, List.set_cons_succ]
        refine wpAnyH_done (by kernel_rfl) ?_ _
        have hfin := Lib.hid (hv8.fin (htm.out.snoc hz') hll.out hbr.out (by omega) ht hs)
        go_wp2_with fail
        go_meet
        case rel => exact ⟨rfl, _, _, _, _, _, _, _, _, _, _, rfl, hfin.out, qR8⟩
      case e1_3 =>
        obtain ⟨V5, hV5⟩ : ∃ V, V4.alloc (.cells #[.int .i64 (-1), .int .i64 999, .int .i64 1000] 3) = V := ⟨_, rfl⟩
        obtain ⟨g5, hg5⟩ : ∃ g, V4.heap.size = g := ⟨_, rfl⟩
        have q5 : Blk 3 g5 [.int .i64 (-1), .int .i64 999, .int .i64 1000] V5 := by rw [← hV5, ← hg5]; exact Blk.new _ [_, _, _] V4
        have e5 : ∀ j (h : j < [(-1 : Int), 999, 1000].length), V5.cell? ⟨g5, j, none⟩ = some (.int .i64 [(-1 : Int), 999, 1000][j]) := fun j hj => by
          have hj3 : j = 0 ∨ j = 1 ∨ j = 2 := by simp at hj; omega
          rcases hj3 with rfl | rfl | rfl <;> exact q5.at rfl
        have hv5 := hv.alloc (.cells #[.int .i64 (-1), .int .i64 999, .int .i64 1000] 3)
        have qR5 := Blk.alloc qR (.cells #[.int .i64 (-1), .int .i64 999, .int .i64 1000] 3)
        rw [hV5] at hv5 qR5
        have hg5p : g5 ≠ p := by have := hv.cur.lt; omega
        go_simp
        try rw [hV5]
        try rw [hg5]
        clear hV5 hg5
        refine hK.out _ _ (trivial) (fun _ => ?_)
        clear hK K
        try simp only [Act.put, List.setIfInBounds_toArray, List.set_cons_zero, List.set_cons_succ]
        refine wpAnyH_ready (rs := [1, 4]) (by kernel_rfl) (by simp) ?_
        refine (AllReadyH.cons (List.getElem?_toArray.trans rfl) (fun K hK => ?e8_1) (AllReadyH.cons (List.getElem?_toArray.trans rfl) (fun K hK => ?e8_4) AllReadyH.nil))
        case e8_1 =>
          have xl : V5.cell? ⟨b, 3, none⟩ = some (.slice a3 n c3) := hv5.box.at rfl
          go_simp
          refine hK.out _ _ (trivial) (fun _ => ?_)
          clear hK K
          try simp only [Act.put, List.setIfInBounds_toArray, List.set_cons_zero, List.set_cons_succ]
          refine wpAnyH_ready (rs := [4]) (by kernel_rfl) (by simp) ?_
          refine AllReadyH.cons (List.getElem?_toArray.trans rfl) (fun K hK => ?_) AllReadyH.nil
          go_simp
          go_at_call 34
          refine (int_any B p g5 3 [-1, 999, 1000] V5 hv5.cur (by omega) e5 (by decide) (by decide)).mono ?_
          rintro e w6 ⟨⟨z, hz, rfl⟩, hc6, ho6⟩
          have hz' : I64 z := by simp at hz; unfold I64; omega
          have hv6 := hv5.only ho6 hc6
          have qR6 : Blk 27 w.heap.size [.slice none 0 0, .int .i64 0, .int .i64 0, .slice none 0 0] w6 := (ho6.block _ (Blk.lt qR5) (by omega)).trans qR5
          clear hc6 ho6 hz
          refine hK.out _ _ (trivial) (fun _ => ?_)
          clear hK K
          try simp only [Act.put, List.setIfInBounds_toArray, List.set_cons_zero, List.set_cons_succ]
          refine wpAnyH_ready (rs := [5]) (by kernel_rfl) (by simp) ?_
          refine AllReadyH.cons (List.getElem?_toArray.trans rfl) (fun K hK => ?_) AllReadyH.nil
          obtain ⟨V7, hV7⟩ : ∃ V, w6.alloc (.cells #[.int .i64 z] 3) = V := ⟨_, rfl⟩
          obtain ⟨g7, hg7⟩ : ∃ g, w6.heap.size = g := ⟨_, rfl⟩
          have e7 : Blk 3 g7 [.int .i64 z] V7 := by rw [← hV7, ← hg7]; exact Blk.new _ [_] w6
          have hv7 := hv6.alloc (.cells #[.int .i64 z] 3)
          have qR7 := Blk.alloc qR6 (.cells #[.int .i64 z] 3)
          rw [hV7] at hv7 qR7
          go_simp
          try rw [hV7]
          try rw [hg7]
          clear hV7 hg7
          refine hK.out _ _ (trivial) (fun _ => ?_)
          clear hK K
          try simp only [Act.put, List.setIfInBounds_toArray, List.set_cons_zero, List.set_cons_succ]
          refine wpAnyH_ready (rs := [6]) (by kernel_rfl) (by simp) ?_
          refine AllReadyH.cons (List.getElem?_toArray.trans rfl) (fun K hK => ?_) AllReadyH.nil
          refine step_append_keep rfl _ _ 25 rfl base 3 i0 _ 8 Try.underlying25 hi0 hz0 hz1 hz2 rfl _ n zs rfl hv7.row g7 1 z rfl (e7.at rfl) (by unfold maxLen; omega) (by omega) (by have := hv7.box.lt; have := hv7.hb; omega) ?_
          intro a' c' w8 hr8 hb8 hk8
          have hq8 := (hv7.appended hr8 hb8 hk8).1
          have qR8 : Blk 27 w.heap.size [.slice none 0 0, .int .i64 0, .int .i64 0, .slice none 0 0] w8 := (hb8.block _ (by have := hv7.hw; have := hv7.hs; omega)).trans qR7
          refine hK.out _ _ (trivial) (fun _ => ?_)
          clear hK K
          try simp only [Act.put, List.setIfInBounds_toArray, List.set_cons_zero, List.set_cons_succ]
          refine wpAnyH_take (i := 7) (v := ?vel12_7) (List.getElem?_toArray.trans rfl) (by kernel_rfl) (by kernel_rfl) (by kernel_rfl) (fun _ _ _ h => h) (Or.inl ⟨by rfl, ?yel12_7⟩) (by assumption) ?rel12_7
          case yel12_7 => (intro w hSw; (try dsimp only at hSw); go_simp; try with_reducible rfl)
          try simp only [Act.put, List.setIfInBounds_toArray, List.set_cons_zero, List.set_cons_succ]
          refine wpAnyH_ready (rs := [8]) (by kernel_rfl) (by simp) ?_
          refine AllReadyH.cons (List.getElem?_toArray.trans rfl) (fun K hK => ?_) AllReadyH.nil
          have hf9 := hq8.free 3
          have hc9 : w8.cell? ⟨b, 3, none⟩ = some (.slice a3 n c3) := hq8.at rfl
          have hv8 := hv7.set3 hr8 hb8 hk8
          have qR8 := qR8.other (a := ⟨b, 3, none⟩) (.slice a' (n + 1) c') (by dsimp only; omega)
          go_simp
          refine hK.out _ _ (trivial) (fun _ => ?_)
          clear hK K
          try simp only [Act.put, List.setIfInBounds_toArray, List.set_cons_zero, List.set_cons_succ]
          refine wpAnyH_done (by kernel_rfl) ?_ _
          have hfin := Lib.hid (hv8.fin (htm.out.snoc hz') hll.out hbr.out (by omega) ht hs)
          go_wp2_with fail
          go_meet
          case rel => exact ⟨rfl, _, _, _, _, _, _, _, _, _, _, rfl, hfin.out, qR8⟩
        case e8_4 =>
          go_simp
          go_at_call 34
          refine (int_any B p g5 3 [-1, 999, 1000] V5 hv5.cur (by omega) e5 (by decide) (by decide)).mono ?_
          rintro e w6 ⟨⟨z, hz, rfl⟩, hc6, ho6⟩
          have hz' : I64 z := by simp at hz; unfold I64; omega
          have hv6 := hv5.only ho6 hc6
          have qR6 : Blk 27 w.heap.size [.slice none 0 0, .int .i64 0, .int .i64 0, .slice none 0 0] w6 := (ho6.block _ (Blk.lt qR5) (by omega)).trans qR5
          clear hc6 ho6 hz
          refine hK.out _ _ (trivial) (fun _ => ?_)
          clear hK K
          try simp only [Act.put, List.setIfInBounds_toArray, List.set_cons_zero, List.set_cons_succ]
          refine wpAnyH_ready (rs := [1, 5]) (by kernel_rfl) (by simp) ?_
          refine (AllReadyH.cons (List.getElem?_toArray.trans rfl) (fun K hK => ?e14_1) (AllReadyH.cons (List.getElem?_toArray.trans rfl) (fun K hK => ?e14_5) AllReadyH.nil))
          case e14_1 =>
            have xl : w6.cell? ⟨b, 3, none⟩ = some (.slice a3 n c3) := hv6.box.at rfl
            go_simp
            refine hK.out _ _ (trivial) (fun _ => ?_)
            clear hK K
            try simp only [Act.put, List.setIfInBounds_toArray, List.set_cons_zero, List.set_cons_succ]
            refine wpAnyH_ready (rs := [5]) (by kernel_rfl) (by simp) ?_
            refine AllReadyH.cons (List.getElem?_toArray.trans rfl) (fun K hK => ?_) AllReadyH.nil
            obtain ⟨V7, hV7⟩ : ∃ V, w6.alloc (.cells #[.int .i64 z] 3) = V := ⟨_, rfl⟩
            obtain ⟨g7, hg7⟩ : ∃ g, w6.heap.size = g := ⟨_, rfl⟩
            have e7 : Blk 3 g7 [.int .i64 z] V7 := by rw [← hV7, ← hg7]; exact Blk.new _ [_] w6
            have hv7 := hv6.alloc (.cells #[.int .i64 z] 3)
            have qR7 := Blk.alloc qR6 (.cells #[.int .i64 z] 3)
            rw [hV7] at hv7 qR7
            go_simp
            try rw [hV7]
            try rw [hg7]
            clear hV7 hg7
            refine hK.out _ _ (trivial) (fun _ => ?_)
            clear hK K
            try simp only [Act.put, List.setIfInBounds_toArray, List.set_cons_zero, List.set_cons_succ]
            refine wpAnyH_ready (rs := [6]) (by kernel_rfl) (by simp) ?_
            refine AllReadyH.cons (List.getElem?_toArray.trans rfl) (fun K hK => ?_) AllReadyH.nil
            refine step_append_keep rfl _ _ 25 rfl base 3 i0 _ 8 Try.underlying25 hi0 hz0 hz1 hz2 rfl _ n zs rfl hv7.row g7 1 z rfl (e7.at rfl) (by unfold maxLen; omega) (by omega) (by have := hv7.box.lt; have := hv7.hb; omega) ?_
            intro a' c' w8 hr8 hb8 hk8
            have hq8 := (hv7.appended hr8 hb8 hk8).1
            have qR8 : Blk 27 w.heap.size [.slice none 0 0, .int .i64 0, .int .i64 0, .slice none 0 0] w8 := (hb8.block _ (by have := hv7.hw; have := hv7.hs; omega)).trans qR7
            refine hK.out _ _ (trivial) (fun _ => ?_)
            clear hK K
            try simp only [Act.put, List.setIfInBounds_toArray, List.set_cons_zero, List.set_cons_succ]
            refine wpAnyH_take (i := 7) (v := ?vel17_7) (List.getElem?_toArray.trans rfl) (by kernel_rfl) (by kernel_rfl) (by kernel_rfl) (fun _ _ _ h => h) (Or.inl ⟨by rfl, ?yel17_7⟩) (by assumption) ?rel17_7
            case yel17_7 => (intro w hSw; (try dsimp only at hSw); go_simp; try with_reducible rfl)
            try simp only [Act.put, List.setIfInBounds_toArray, List.set_cons_zero, List.set_cons_succ]
            refine wpAnyH_ready (rs := [8]) (by kernel_rfl) (by simp) ?_
            refine AllReadyH.cons (List.getElem?_toArray.trans rfl) (fun K hK => ?_) AllReadyH.nil
            have hf9 := hq8.free 3
            have hc9 : w8.cell? ⟨b, 3, none⟩ = some (.slice a3 n c3) := hq8.at rfl
            have hv8 := hv7.set3 hr8 hb8 hk8
            have qR8 := qR8.other (a := ⟨b, 3, none⟩) (.slice a' (n + 1) c') (by dsimp only; omega)
            go_simp
            refine hK.out _ _ (trivial) (fun _ => ?_)
            clear hK K
            try simp only [Act.put, List.setIfInBounds_toArray, List.set_cons_zero, List.set_cons_succ]
            refine wpAnyH_done (by kernel_rfl) ?_ _
            have hfin := Lib.hid (hv8.fin (htm.out.snoc hz') hll.out hbr.out (by omega) ht hs)
            go_wp2_with fail
            go_meet
            case rel => exact ⟨rfl, _, _, _, _, _, _, _, _, _, _, rfl, hfin.out, qR8⟩
          case e14_5 =>
            obtain ⟨V7, hV7⟩ : ∃ V, w6.alloc (.cells #[.int .i64 z] 3) = V := ⟨_, rfl⟩
            obtain ⟨g7, hg7⟩ : ∃ g, w6.heap.size = g := ⟨_, rfl⟩
            have e7 : Blk 3 g7 [.int .i64 z] V7 := by rw [← hV7, ← hg7]; exact Blk.new _ [_] w6
            have hv7 := hv6.alloc (.cells #[.int .i64 z] 3)
            have qR7 := Blk.alloc qR6 (.cells #[.int .i64 z] 3)
            rw [hV7] at hv7 qR7
            go_simp
            try rw [hV7]
            try rw [hg7]
            clear hV7 hg7
            refine hK.out _ _ (trivial) (fun _ => ?_)
            clear hK K
            try simp only [Act.put, List.setIfInBounds_toArray, List.set_cons_zero, List.set_cons_succ]
            refine wpAnyH_ready (rs := [1]) (by kernel_rfl) (by simp) ?_
            refine AllReadyH.cons (List.getElem?_toArray.trans rfl) (fun K hK => ?_) AllReadyH.nil
            have xl : V7.cell? ⟨b, 3, none⟩ = some (.slice a3 n c3) := hv7.box.at rfl
            go_simp
            refine hK.out _ _ (trivial) (fun _ => ?_)
            clear hK K
            try simp only [Act.put, List.setIfInBounds_toArray, List.set_cons_zero, List.set_cons_succ]
            refine wpAnyH_ready (rs := [6]) (by kernel_rfl) (by simp) ?_
            refine AllReadyH.cons (List.getElem?_toArray.trans rfl) (fun K hK => ?_) AllReadyH.nil
            refine step_append_keep rfl _ _ 25 rfl base 3 i0 _ 8 Try.underlying25 hi0 hz0 hz1 hz2 rfl _ n zs rfl hv7.row g7 1 z rfl (e7.at rfl) (by unfold maxLen; omega) (by omega) (by have := hv7.box.lt; have := hv7.hb; omega) ?_
            intro a' c' w8 hr8 hb8 hk8
            have hq8 := (hv7.appended hr8 hb8 hk8).1
            have qR8 : Blk 27 w.heap.size [.slice none 0 0, .int .i64 0, .int .i64 0, .slice none 0 0] w8 := (hb8.block _ (by have := hv7.hw; have := hv7.hs; omega)).trans qR7
            refine hK.out _ _ (trivial) (fun _ => ?_)
            clear hK K
            try simp only [Act.put, List.setIfInBounds_toArray, List.set_cons_zero, List.set_cons_succ]
            refine wpAnyH_take (i := 7) (v := ?vel21_7) (List.getElem?_toArray.trans rfl) (by kernel_rfl) (by kernel_rfl) (by kernel_rfl) (fun _ _ _ h => h) (Or.inl ⟨by rfl, ?yel21_7⟩) (by assumption) ?rel21_7
            case yel21_7 => (intro w hSw; (try dsimp only at hSw); go_simp; try with_reducible rfl)
            try simp only [Act.put, List.setIfInBounds_toArray, List.set_cons_zero, List.set_cons_succ]
            refine wpAnyH_ready (rs := [8]) (by kernel_rfl) (by simp) ?_
            refine AllReadyH.cons (List.getElem?_toArray.trans rfl) (fun K hK => ?_) AllReadyH.nil
            have hf9 := hq8.free 3
            have hc9 : w8.cell? ⟨b, 3, none⟩ = some (.slice a3 n c3) := hq8.at rfl
            have hv8 := hv7.set3 hr8 hb8 hk8
            have qR8 := qR8.other (a := ⟨b, 3, none⟩) (.slice a' (n + 1) c') (by dsimp only; omega)
            go_simp
            refine hK.out _ _ (trivial) (fun _ => ?_)
            clear hK K
            try simp only [Act.put, List.setIfInBounds_toArray, List.set_cons_zero, List.set_cons_succ]
            refine wpAnyH_done (by kernel_rfl) ?_ _
            have hfin := Lib.hid (hv8.fin (htm.out.snoc hz') hll.out hbr.out (by omega) ht hs)
            go_wp2_with fail
            go_meet
            case rel => exact ⟨rfl, _, _, _, _, _, _, _, _, _, _, rfl, hfin.out, qR8⟩
    have e2 : ((k : Int) == 2) = false := by simp; omega
    by_cases k3 : k = 3
    · subst k3
      go_wp2_with fail
      go_at_call 66
      refine (any9 B p w3 hv.cur).mono ?_
      rintro e w4 ⟨a, c, l', rfl, hL', hll', hbr', hc4, ho4⟩
      have hv4 := hv.only ho4 hc4
      have qR4 : Blk 27 w.heap.size [.slice none 0 0, .int .i64 0, .int .i64 0, .slice none 0 0] w4 := (ho4.block _ qR.lt (by omega)).trans qR
      have qB := hv4.box
      have hs4 := ho4.size
      have hc1' : w4.cell? ⟨b, 0, none⟩ = some (.slice a0 m c0) := by rw [HM.out] at qB; exact qB.at rfl
      have hf1 := qB.free 0
      obtain ⟨hi4, hl4⟩ := hv4.ints htm.out
      have hq := qB.set 0 (.slice a l'.length c)
      simp only [List.set_cons_zero] at hq
      have hsF : (w4.setCell ⟨b, 0, none⟩ (.slice a l'.length c)).heap.size = w4.heap.size := gsize_set _ _ _
      have hfin : FinV B p b w (w4.setCell ⟨b, 0, none⟩ (.slice a l'.length c)) l' a c t s a3 n c3 zs :=
        ⟨hq, by rw [hsF]; exact (hL'.keep fun i _ h1 _ => heap_setCell_other _ _ i _ (by dsimp only; omega)).more (by omega) (Nat.le_refl _),
          by
            obtain ⟨a', c', e, g1, g2, go⟩ := OwnI.own (ownI_other hv4.row (a := ⟨b, 0, none⟩) hv4.ne (.slice a l'.length c)) htm.out.wf
            injection e with q1 _ q3
            subst q1 q3
            have hl := hl4
            subst hl
            exact (Owns.lies (Owns.of_row go g1 g2 (S := Span base _) fun t a b => ⟨a, b⟩) (fun t h => h)).more hv4.hs (Nat.le_refl _),
          hl4, hc4.only_new (a := ⟨b, 0, none⟩) (by dsimp only; omega) (by dsimp only; omega) _, hv4.on.setNew (a := ⟨b, 0, none⟩) (by dsimp only; omega) _, hll', hbr', by omega, ht, hs⟩
      have hfin := Lib.hid hfin
      have qF := qR4.other (a := ⟨b, 0, none⟩) (.slice a l'.length c) (by dsimp only; omega)
      clear hv4 qR4 hv qR qB hq hL' hi4
      go_wp2_with fail
      go_meet
      case rel => exact ⟨rfl, _, _, _, _, _, _, _, _, _, _, rfl, hfin.out, qF⟩
    have e3 : ((k : Int) == 3) = false := by simp; omega
    by_cases k4 : k = 4
    · subst k4
      go_wp2_with fail
      go_loopw [45] (fun _ wr => ∃ (n c3 : Nat) (a3 : Option Addr) (zs : List Int), n ≤ 9 ∧ VisU B p (w.heap.size + 1) base b w wr l a0 c0 t s a3 n c3 zs ∧ Hid (Tame zs) ∧ Blk 27 w.heap.size [.slice none 0 0, .int .i64 0, .int .i64 0, .slice none 0 0] wr) (fun _ wr => 9 - inLen b wr)
      case atStart => exact ⟨n, c3, a3, zs, by omega, hv, htm, qR⟩
      case round =>
        obtain ⟨n', c', a', zs', hn9, hv', htm', qR'⟩ := hrel
        have hc3' : wr.cell? ⟨b, 3, none⟩ = some (.slice a' n' c') := hv'.box.at rfl
        by_cases hlt : n' < 9
        · have hd : decide ((n' : Int) < 9) = true := by simp; omega
          have hv7 := hv'.alloc (.cells #[.int .i64 1] 3)
          have qR7 := Blk.alloc qR' (.cells #[.int .i64 1] 3)
          have e7 : Blk 3 wr.heap.size [.int .i64 1] (wr.alloc (.cells #[.int .i64 1] 3)) := Blk.new _ [_] wr
          have hL3 := Lib.hid (inLen_at hc3')
          go_wp2_with (at_builtin; refine wpList_append_keep rfl _ _ 25 rfl base 3 i0 _ 8 Try.underlying25 hi0 hz0 hz1 hz2 rfl _ n' zs' rfl hv7.row wr.heap.size 1 1 rfl (e7.at rfl) (by unfold maxLen; omega) (by omega) (by have := hv7.box.lt; have := hv7.hb; omega) ?_; intro a8 c8 w8 hr8 hb8 hk8; have hq8 := (hv7.appended hr8 hb8 hk8).1; have qR8 : Blk 27 w.heap.size [.slice none 0 0, .int .i64 0, .int .i64 0, .slice none 0 0] w8 := (hb8.block _ (by have := hv7.hw; have := hv7.hs; omega)).trans qR7; have hf9 := hq8.free 3; have hc9 : w8.cell? ⟨b, 3, none⟩ = some (.slice a' n' c') := hq8.at rfl)
          go_roundw
          case rel => exact ⟨_, _, _, _, _, _, _, _, _, ⟨n' + 1, c8, a8, zs' ++ [1], by omega, hv7.set3 hr8 hb8 hk8, Lib.hid (htm'.out.snoc (by unfold I64; omega)), qR8.other (a := ⟨b, 3, none⟩) _ (by dsimp only; omega)⟩, rfl⟩
          case measure =>
            rw [hL3.out, inLen_at (World.cell?_setCell_same _ _ _ hc9)]
            omega
        · have hd : decide ((n' : Int) < 9) = false := by simp; omega
          have hfin := Lib.hid (hv'.fin htm'.out hll.out hbr.out hn9 ht hs)
          go_wp2_with fail
          go_meet
          case rel => exact ⟨rfl, _, _, _, _, _, _, _, _, _, _, rfl, hfin.out, qR'⟩
    have e4 : ((k : Int) == 4) = false := by simp; omega
    have hfin := Lib.hid (hv.fin htm.out hll.out hbr.out (by omega) ht hs)
    clear hv
    go_wp2_with fail
    go_meet
    case rel => exact ⟨rfl, _, _, _, _, _, _, _, _, _, _, rfl, hfin.out, qR⟩
  case rest =>
    obtain ⟨rfl, V, l, a0, c0, t, s, a3, n, c3, zs, rfl, hf, qR⟩ := hcut
    obtain ⟨m, hm⟩ : ∃ m, l.length = m := ⟨_, rfl⟩
    have qB := hf.box
    rw [hm] at qB
    have HM := Lib.hid hm
    clear hm
    have x0 : V.cell? ⟨b, 0, none⟩ = some (.slice a0 m c0) := qB.at rfl
    have x1 : V.cell? ⟨b, 1, none⟩ = some (.int .i64 t) := qB.at rfl
    have x2 : V.cell? ⟨b, 2, none⟩ = some (.int .i64 s) := qB.at rfl
    have x3 : V.cell? ⟨b, 3, none⟩ = some (.slice a3 n c3) := qB.at rfl
    have z0 : V.cell? ⟨w.heap.size, 0, none⟩ = some (.slice none 0 0) := qR.at rfl
    have f0 := qR.free 0
    have z1 : V.cell? ⟨w.heap.size, 1, none⟩ = some (.int .i64 0) := qR.at rfl
    have f1 := qR.free 1
    have z2 : V.cell? ⟨w.heap.size, 2, none⟩ = some (.int .i64 0) := qR.at rfl
    have f2 := qR.free 2
    have z3 : V.cell? ⟨w.heap.size, 3, none⟩ = some (.slice none 0 0) := qR.at rfl
    have f3 := qR.free 3
    obtain ⟨VF, hVF⟩ : ∃ U, (((V.setCell ⟨w.heap.size, 0, none⟩ (.slice a0 m c0)).setCell ⟨w.heap.size, 1, none⟩ (.int .i64 t)).setCell ⟨w.heap.size, 2, none⟩ (.int .i64 s)).setCell ⟨w.heap.size, 3, none⟩ (.slice a3 n c3) = U := ⟨_, rfl⟩
    have qF := (((qR.set 0 (.slice a0 m c0)).set 1 (.int .i64 t)).set 2 (.int .i64 s)).set 3 (.slice a3 n c3)
    simp only [List.set_cons_zero, List.set_cons_succ] at qF
    have hkF : ∀ i, i ≠ w.heap.size → VF.heap[i]? = V.heap[i]? := fun i hne => by rw [← hVF, heap_setCell_other _ _ i _ (by dsimp only; omega), heap_setCell_other _ _ i _ (by dsimp only; omega), heap_setCell_other _ _ i _ (by dsimp only; omega), heap_setCell_other _ _ i _ (by dsimp only; omega)]
    have hsF : VF.heap.size = V.heap.size := by rw [← hVF]; simp only [gsize_set]
    have hcF := (((hf.cur.only_new (a := ⟨w.heap.size, 0, none⟩) (by dsimp only; omega) (by dsimp only; omega) (.slice a0 m c0)).only_new (a := ⟨w.heap.size, 1, none⟩) (by dsimp only; omega) (by dsimp only; omega) (.int .i64 t)).only_new (a := ⟨w.heap.size, 2, none⟩) (by dsimp only; omega) (by dsimp only; omega) (.int .i64 s)).only_new (a := ⟨w.heap.size, 3, none⟩) (by dsimp only; omega) (by dsimp only; omega) (.slice a3 n c3)
    have hOF := (((hf.on.setNew (a := ⟨w.heap.size, 0, none⟩) (Nat.le_refl _) (.slice a0 m c0)).setNew (a := ⟨w.heap.size, 1, none⟩) (Nat.le_refl _) (.int .i64 t)).setNew (a := ⟨w.heap.size, 2, none⟩) (Nat.le_refl _) (.int .i64 s)).setNew (a := ⟨w.heap.size, 3, none⟩) (Nat.le_refl _) (.slice a3 n c3)
    rw [hVF] at qF hcF hOF
    have hL1 := (hf.site.keep (w' := VF) fun i _ h1 _ => hkF i (by omega)).more (lo' := w.heap.size) (hi' := VF.heap.size) (by omega) (by omega)
    have hL2 := (hf.row.keep (w' := VF) fun i _ h1 _ => hkF i (by omega)).more (lo' := w.heap.size) (hi' := VF.heap.size) (by omega) (by omega)
    have g0 : VF.cell? ⟨w.heap.size, 0, none⟩ = some (.slice a0 m c0) := qF.at rfl
    have g1 : VF.cell? ⟨w.heap.size, 1, none⟩ = some (.int .i64 t) := qF.at rfl
    have g2 : VF.cell? ⟨w.heap.size, 2, none⟩ = some (.int .i64 s) := qF.at rfl
    have g3 : VF.cell? ⟨w.heap.size, 3, none⟩ = some (.slice a3 n c3) := qF.at rfl
    have HVF := Lib.hid hVF
    have HL1 := Lib.hid hL1
    have HL2 := Lib.hid hL2
    have HF := Lib.hid hf
    clear hVF hL1 hL2 qF qR qB hkF hf
    go_wp2
    rw [HVF.out]
    refine bodyPost_ret (v := .agg #[.slice a0 m c0, .int .i64 t, .int .i64 s, .slice a3 n c3]) (by simp [results, Try.results32, go_sem, g0, g1, g2, g3]) rfl ?_
    have hlm := HM.out
    have hln := HF.out.len
    subst hlm hln
    exact ⟨⟨l, t, s, zs⟩, a0, c0, a3, c3, rfl, HL1.out, HL2.out, HF.out.ll, HF.out.br, HF.out.ln, HF.out.wt, HF.out.ws, hcF, hOF⟩
end Go.Proofs.Ytagnhfalmefbhaa.Draw
