/-
  The versions of one address as a slice of the call's own, what they lead to being the argument's; one for each address; one version more.
  Conditions: the versions lie in memory ahead of the call.
-/
import Derived.Test.YtldpgkbemgpacaaPasts
namespace Go.Proofs.Ytldpgkbemgpacaa.Sites
open Go Go.RowKit Go.Proofs.Ytldpgkbemgpacaa.Mem Go.Proofs.Ytldpgkbemgpacaa.Gen Go.Proofs.Ytldpgkbemgpacaa.Adr Go.Proofs.Ytldpgkbemgpacaa.Res

def PastAt (base lo hi : Nat) (w : World) (v : Value) (p : List TVersion) : Prop :=
  ∃ xs, w.ownsRow base 70 9 v p.length xs ∧ ∀ i, i < p.length → ∀ x, x < 9 → ∃ u, xs[i * 9 + x]? = some u ∧ Lies lo hi w ((p.getD i nVersion).c x) u
section
variable {base lo hi : Nat} {w w' : World} {v : Value} {p : List TVersion}
theorem PastAt.nil (base lo hi : Nat) (w : World) : PastAt base lo hi w (.slice none 0 0) [] := ⟨[], World.ownsRow_nil _ _ _ _, fun i h => absurd h (by simp)⟩
theorem PastAt.keep (h : PastAt base lo hi w v p) (hv : ∀ t, v.ownBlock = some t → w'.heap[t]? = w.heap[t]?) (hk : ∀ t, t < w.heap.size → lo ≤ t → t < hi → w'.heap[t]? = w.heap[t]?) : PastAt base lo hi w' v p := by
  obtain ⟨xs, h1, h2⟩ := h
  refine ⟨xs, ⟨h1.1, ?_⟩, fun i hi x hx => ?_⟩
  · rcases h1.2 with hn | ⟨g, cap, cur, rfl, hb, hg, rest⟩
    · exact .inl hn
    · exact .inr ⟨g, cap, cur, rfl, hb, by rw [hv g rfl]; exact hg, rest⟩
  · obtain ⟨u, g1, g2⟩ := h2 i hi x hx
    exact ⟨u, g1, g2.keep hk⟩
theorem PastAt.lt (h : PastAt base lo hi w v p) {t : Nat} (ht : v.ownBlock = some t) : base ≤ t ∧ t < w.heap.size := by
  obtain ⟨xs, h1, _⟩ := h
  exact h1.lt t ht
theorem PastAt.cells (h : PastAt base lo hi w v p) {t : Nat} (ht : v.ownBlock = some t) : ∃ cur T f, w.heap[t]? = some (.cells cur T f) := by
  obtain ⟨xs, h1, _⟩ := h
  rcases h1.2 with ⟨rfl, _⟩ | ⟨g, cap, cur, rfl, hb, hg, rest⟩
  · simp [Value.ownBlock] at ht
  · simp [Value.ownBlock] at ht
    subst ht
    exact ⟨_, _, _, hg⟩
theorem PastAt.below (h : PastAt base lo hi w v p) (hb : Below w.heap.size w w') : PastAt base lo hi w' v p := h.keep (fun t ht => hb.block t (h.lt ht).2) (fun t ht _ _ => hb.block t ht)
theorem PastAt.shape (h : PastAt base lo hi w v p) : ∃ A c, v = .slice A p.length c := by
  obtain ⟨xs, h1, _⟩ := h
  rcases h1.2 with ⟨rfl, h0⟩ | ⟨g, cap, cur, rfl, _⟩
  · exact ⟨none, 0, by rw [h0]⟩
  · exact ⟨_, _, rfl⟩
theorem PastAt.lies (h : PastAt base lo hi w v p) (hh : hi ≤ w.heap.size) : Lies 0 w.heap.size w (dVersion p) v := by
  obtain ⟨xs, h1, h2⟩ := h
  rcases h1.2 with ⟨rfl, h0⟩ | ⟨g, cap, cur, rfl, hb, hg, hnc, hcm, hcs, hct⟩
  · exact ⟨none, 0, by rw [h0], Nat.le_of_eq h0, Nat.zero_le _, fun hp => absurd hp (by omega)⟩
  · refine ⟨_, cap, rfl, hnc, hcm, fun _ => ⟨g, 0, rfl, Nat.zero_le _, (Array.getElem?_eq_some_iff.1 hg).1, fun i hi x hx => ?_⟩⟩
    obtain ⟨u, g1, g2⟩ := h2 i hi x hx
    have hlt : i * 9 + x < xs.length := (List.getElem?_eq_some_iff.1 g1).1
    rw [Nat.zero_add]
    exact ⟨u, by rw [h1.cellAt _ (by rw [← h1.1]; exact hlt)]; exact g1, g2.more (Nat.zero_le _) hh⟩
end
theorem getD_snoc {p : List TVersion} {V : TVersion} {i : Nat} (hi : i < p.length + 1) : (p ++ [V]).getD i nVersion = if i < p.length then p.getD i nVersion else V := by
  rw [List.getD_eq_getElem?_getD, List.getD_eq_getElem?_getD]
  by_cases h : i < p.length
  · rw [if_pos h, List.getElem?_append_left h]
  · rw [if_neg h, List.getElem?_append_right (by omega), show i - p.length = 0 by omega]
    rfl
/-- One version more. -/
theorem PastAt.append {base lo hi b2 c : Nat} {w : World} {v : Value} {p : List TVersion} {V : TVersion} {us : List Value} (h : PastAt base lo hi w v p) (hbase : hi ≤ base) (hbw : base ≤ w.heap.size) (hul : us.length = 9)
    (hc : ∀ j u, us[j]? = some u → w.cell? ⟨b2, j, none⟩ = some u) (h1 : ∀ u ∈ us, u.oneCell' = true) (hV : ∀ x, x < 9 → ∃ u, us[x]? = some u ∧ Lies lo hi w (V.c x) u) (hn : p.length + 1 ≤ 1048576) (ty : TypeId) :
    ∃ v' w', (Builtin.append_ #[61, 61] ty #[v, .slice (some ⟨b2, 0, none⟩) 1 c]).run Try.prog w = .ok v' w' ∧ PastAt base lo hi w' v' (p ++ [V]) ∧ w.grownBy w' v.ownBlock ∧ (v'.ownBlock = v.ownBlock ∨ v'.ownBlock = some w.heap.size) := by
  obtain ⟨xs, h2, h3⟩ := h
  obtain ⟨i0, hi0, hz0, hz1, hz2⟩ := info_parts infoVersion
  obtain ⟨v', w', hr, h4, h5, _, h6⟩ := run_append_own_at (P := Try.prog) (w := w) base 61 ty 70 i0 _ 9 88 Try.underlying61 hi0 hz0 hz1 hz2 rfl (by omega) v p.length xs h2 ⟨b2, 0, none⟩ 1 c us (by rw [hul]) (fun j u hu => by rw [add_pl, Nat.zero_add]; exact hc j u hu) h1 (by unfold maxLen; omega) (by omega) hbw
  have hxl : xs.length = p.length * 9 := h2.1
  have hold : ∀ t, t < w.heap.size → lo ≤ t → t < hi → w'.heap[t]? = w.heap[t]? := fun t ht _ hth => h5.block t ht fun e => by have := (h2.lt t e.symm).1; omega
  refine ⟨v', w', hr, ⟨xs ++ us, by rw [List.length_append]; exact h4, fun i hi x hx => ?_⟩, h5, h6⟩
  rw [List.length_append, List.length_singleton] at hi
  rw [getD_snoc hi]
  by_cases he : i < p.length
  · obtain ⟨u, g1, g2⟩ := h3 i he x hx
    have hlt : i * 9 + x < xs.length := (List.getElem?_eq_some_iff.1 g1).1
    rw [if_pos he]
    exact ⟨u, by rw [List.getElem?_append_left hlt]; exact g1, g2.keep hold⟩
  · obtain rfl : i = p.length := by omega
    obtain ⟨u, g1, g2⟩ := hV x hx
    rw [if_neg he]
    exact ⟨u, by rw [List.getElem?_append_right (by omega), hxl, Nat.add_sub_cancel_left]; exact g1, g2.keep hold⟩

/-- For each address its versions, in a row of its own. -/
structure Groups (b base lo hi : Nat) (w : World) (F : TAddress → Value) (l : List TVersion) (j : Nat) : Prop where
  one : ∀ A, WfA A → PastAt base lo hi w (F A) (sel l A j)
  apart : ∀ A B t, WfA A → WfA B → (F A).ownBlock = some t → (F B).ownBlock = some t → A = B
section
variable {b base lo hi j : Nat} {w w' : World} {F : TAddress → Value} {l : List TVersion}
theorem Groups.keep (h : Groups b base lo hi w F l j) (hk : ∀ t, t < w.heap.size → w'.heap[t]? = w.heap[t]? ∨ (t = b ∧ hi ≤ b)) (hm : ∃ es clock, w.heap[b]? = some (.map es clock)) : Groups b base lo hi w' F l j := by
  refine ⟨fun A hA => (h.one A hA).keep (fun t ht => ?_) (fun t ht _ hth => ?_), h.apart⟩
  · rcases hk t ((h.one A hA).lt ht).2 with e | ⟨rfl, _⟩
    · exact e
    · obtain ⟨cur, T, f, e1⟩ := (h.one A hA).cells ht
      obtain ⟨es, clock, e2⟩ := hm
      rw [e1] at e2
      cases e2
  · rcases hk t ht with e | ⟨rfl, hb⟩
    · exact e
    · omega
theorem Groups.below (h : Groups b base lo hi w F l j) (hb : Below w.heap.size w w') : Groups b base lo hi w' F l j := ⟨fun A hA => (h.one A hA).below hb, h.apart⟩
theorem Groups.start (b base lo hi : Nat) (w : World) (l : List TVersion) : Groups b base lo hi w (fun _ => .slice none 0 0) l 0 := ⟨fun A _ => PastAt.nil _ _ _ _, fun A B t _ _ h => by simp [Value.ownBlock] at h⟩
set_option maxHeartbeats 1000000 in
/-- One version more is put where it belongs. -/
theorem Groups.step {b2 c n : Nat} {V : TVersion} {us : List Value} (h : Groups b base lo hi w F l j) (hp : Pasts b n w F) (hn : n ≤ 1048576) (hhb : hi ≤ base) (hbb : base ≤ b) (hb2 : b2 ≠ b) (hj : j < l.length) (hVj : l.getD j nVersion = V) (hA : WfA V.f0) (hul : us.length = 9)
    (hc : ∀ j u, us[j]? = some u → w.cell? ⟨b2, j, none⟩ = some u) (h1 : ∀ u ∈ us, u.oneCell' = true) (hV : ∀ x, x < 9 → ∃ u, us[x]? = some u ∧ Lies lo hi w (V.c x) u) (hm : j + 1 ≤ 1048576) (ty : TypeId) :
    ∃ st w1 v' w2 w3 F', (Instr.mapEntry 62 (.map (some b)) (vA V.f0)).run Try.prog w = .ok (.tuple #[F V.f0, .int .i64 st]) w1 ∧
      (Builtin.append_ #[61, 61] ty #[F V.f0, .slice (some ⟨b2, 0, none⟩) 1 c]).run Try.prog w1 = .ok v' w2 ∧
      (Instr.entryStore 62 (.map (some b)) (.int .i64 st) v').run Try.prog w2 = .ok () w3 ∧ Pasts b (n + 1) w3 F' ∧ Groups b base lo hi w3 F' l (j + 1) ∧ Below base w w3 := by
  obtain ⟨st, w1, hr1, ho1, hm1, hst⟩ := hp.entry hn hA
  have hbl := hp.lt
  have g1 : Groups b base lo hi w1 F l j := h.keep (fun t _ => by
    by_cases e : t = b
    · exact .inr ⟨e, by omega⟩
    · exact .inl (ho1.block t e)) hp.isMap
  have hs1 : w1.heap.size = w.heap.size := ho1.size
  have hoth : ∀ t, t < hi → w1.heap[t]? = w.heap[t]? := fun t ht => ho1.block t (by omega)
  obtain ⟨v', w2, hr2, p2, gr2, at2⟩ := (g1.one V.f0 hA).append (V := V) (us := us) (b2 := b2) (c := c) hhb (by omega) hul (fun j u hu => by rw [World.cell?_of_block (w := w) (w' := w1) (a := ⟨b2, j, none⟩) (ho1.block b2 hb2)]; exact hc j u hu) h1
    (fun x hx => by obtain ⟨u, e1, e2⟩ := hV x hx; exact ⟨u, e1, e2.keep fun t _ _ ht => hoth t ht⟩) (by have := sel_len l V.f0 j; omega) ty
  have hnb : ∀ t, (F V.f0).ownBlock = some t → t ≠ b := fun t ht e => by
    subst e
    obtain ⟨cur, T, f, e1⟩ := (g1.one V.f0 hA).cells ht
    obtain ⟨es, clock, e2⟩ := hm1
    rw [e1] at e2
    cases e2
  have e12 : w2.heap[b]? = w1.heap[b]? := gr2.block b (by omega) (fun e => hnb b e.symm rfl)
  obtain ⟨w3, hr3, ho3, hp3⟩ := hst w2 v' e12
  have hm2 : ∃ es clock, w2.heap[b]? = some (.map es clock) := by rw [e12]; exact hm1
  refine ⟨st, w1, v', w2, w3, upd F V.f0 v', hr1, hr2, hr3, hp3, ?_, ?_⟩
  · have hself : sel l V.f0 (j + 1) = sel l V.f0 j ++ [V] := by rw [← hVj]; exact sel_yes hj (sameA_iff.2 rfl)
    have hk3 : ∀ t, t < w2.heap.size → w3.heap[t]? = w2.heap[t]? ∨ (t = b ∧ hi ≤ b) := fun t _ => by
      by_cases e : t = b
      · exact .inr ⟨e, by omega⟩
      · exact .inl (ho3.block t e)
    have gA : Groups b base lo hi w2 (upd F V.f0 v') l (j + 1) := by
      refine ⟨fun B hB => ?_, fun B C t hB hC e1 e2 => ?_⟩
      · by_cases e : B = V.f0
        · subst e
          rw [upd_same, hself]
          exact p2
        · rw [upd_other e, sel_no hj (by rw [hVj]; cases hs : sameA V.f0 B with | false => rfl | true => exact absurd (sameA_iff.1 hs).symm e)]
          refine (g1.one B hB).keep (fun t ht => ?_) (fun t ht _ hth => ?_)
          · exact gr2.block t ((g1.one B hB).lt ht).2 (fun e' => e (g1.apart B V.f0 t hB hA ht e'.symm))
          · exact gr2.block t ht (fun e' => by have := ((g1.one V.f0 hA).lt e'.symm).1; omega)
      · have hfresh : ∀ B, WfA B → B ≠ V.f0 → (F B).ownBlock = some t → v'.ownBlock = some t → False := fun B hB hne e1 e2 => by
          rcases at2 with e | e
          · rw [e] at e2; exact hne (g1.apart B V.f0 t hB hA e1 e2)
          · rw [e] at e2; injection e2 with e2; have := ((g1.one B hB).lt e1).2; omega
        by_cases eB : B = V.f0
        · by_cases eC : C = V.f0
          · rw [eB, eC]
          · rw [eB, upd_same] at e1
            rw [upd_other eC] at e2
            exact (hfresh C hC eC e2 e1).elim
        · rw [upd_other eB] at e1
          by_cases eC : C = V.f0
          · rw [eC, upd_same] at e2
            exact (hfresh B hB eB e1 e2).elim
          · rw [upd_other eC] at e2
            exact g1.apart B C t hB hC e1 e2
    exact gA.keep hk3 hm2
  · have b1 : Below base w w1 := ho1.below hbb
    have b2' : Below base w1 w2 := (Below.refl _ _).grown gr2 (by omega) (fun t e => ((g1.one V.f0 hA).lt e).1)
    exact (b1.trans b2').trans (ho3.below hbb)
end
end Go.Proofs.Ytldpgkbemgpacaa.Sites
