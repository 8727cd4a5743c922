/-
  For every row of bytes that a test is drawn from, the law FnByteStrings returns true: byte strings and lists of numbers are read back from their encodings.
  Conditions: the argument can be read.
-/
import Derived.Test.YtplkkmjfglgecaaDraws2
import Derived.Test.YtplkkmjfglgecaaDecode
import Derived.Test.YtplkkmjfglgecaaVar2
import Derived.Test.YtplkkmjfglgecaaSameB
import Derived.Test.YtplkkmjfglgecaaSameI
import Derived.Test.YtplkkmjfglgecaaVarInv
namespace Go.Proofs.Ytplkkmjfglgecaa.FnByteStringsW
open Go Go.RowKit Go.Proofs.Ytplkkmjfglgecaa.Mem Go.Proofs.Ytplkkmjfglgecaa.Var Go.Proofs.Ytplkkmjfglgecaa.Read
set_option linter.unusedVariables false

/-! Mathematics. -/
theorem rdAt_drop {zs : List Int} {p q : Nat} {rest : List Int} (h : zs.drop p = uv q ++ rest) (hq : q ≤ 1000000000000) : rdAt zs p = some (q, (uv q).length) := by
  unfold rdAt
  rw [if_pos (by omega), Int.toNat_natCast, h]
  exact rdv_uv q rest hq
theorem rdAt_over {zs : List Int} {p : Nat} (h : zs.length ≤ p) : rdAt zs p = none := by
  unfold rdAt
  rw [if_pos (by omega), Int.toNat_natCast, List.drop_of_length_le h]
  rfl
theorem appB_drop (zs ds : List Int) (hd : ds.length ≤ 5) : appB zs ds = zs ++ ((ds.length : Int) :: ds) := by
  unfold appB
  rw [app_in zs _ (by omega) (by omega), Int.toNat_natCast, uv_small (by omega), List.append_assoc]
  rfl
theorem back_read (zs ds : List Int) (hd : ds.length ≤ 5) : rdAt (appB zs ds) zs.length = some (ds.length, 1) := by
  have h := rdAt_drop (zs := appB zs ds) (p := zs.length) (q := ds.length) (rest := ds) (by rw [appB_drop zs ds hd, List.drop_left, uv_small (by omega)]; rfl) (by omega)
  rw [h, uv_small (by omega)]
  rfl
theorem back_len (zs ds : List Int) (hd : ds.length ≤ 5) : (appB zs ds).length = zs.length + 1 + ds.length := by
  rw [appB_drop zs ds hd]; simp; omega
theorem back_L (zs ds : List Int) (hd : ds.length ≤ 5) : rbL (appB zs ds) zs.length ds.length = ds := by
  unfold rbL
  rw [back_read zs ds hd]
  show (if _ then _ else _) = _
  rw [if_pos ⟨by omega, by rw [back_len zs ds hd]; omega⟩, Int.toNat_natCast, appB_drop zs ds hd]
  simp
theorem back_Q (zs ds : List Int) (hd : ds.length ≤ 5) : rbQ (appB zs ds) zs.length ds.length = ((zs.length + 1 + ds.length : Nat) : Int) := by
  unfold rbQ
  rw [back_read zs ds hd]
  show (if _ then _ else _) = _
  rw [if_pos ⟨by omega, by rw [back_len zs ds hd]; omega⟩]
  omega
theorem back_B (zs ds : List Int) (hd : ds.length ≤ 5) : rbB (appB zs ds) zs.length ds.length = true := by
  unfold rbB
  rw [back_read zs ds hd]
  show decide _ = _
  rw [decide_eq_true ⟨by omega, by rw [back_len zs ds hd]; omega⟩]
theorem short_L (zs ds : List Int) (hd : ds.length ≤ 5) : rbL (appB zs ds) zs.length ((ds.length : Int) - 1) = [] := by
  unfold rbL
  rw [back_read zs ds hd]
  show (if _ then _ else _) = _
  rw [if_neg (by omega)]
theorem short_Q (zs ds : List Int) (hd : ds.length ≤ 5) : rbQ (appB zs ds) zs.length ((ds.length : Int) - 1) = 0 := by
  unfold rbQ
  rw [back_read zs ds hd]
  show (if _ then _ else _) = _
  rw [if_neg (by omega)]
theorem short_B (zs ds : List Int) (hd : ds.length ≤ 5) : rbB (appB zs ds) zs.length ((ds.length : Int) - 1) = false := by
  unfold rbB
  rw [back_read zs ds hd]
  show decide _ = _
  rw [decide_eq_false (by omega)]

/-- Numbers that a varint carries. -/
def Carried (l : List Int) : Prop := ∀ z ∈ l, 0 ≤ z ∧ z ≤ 1000000000000
theorem enc_flat (l : List Int) : ∀ xs : List Int, Carried l → l.foldl app xs = xs ++ l.flatMap (fun z => uv z.toNat) := by
  induction l with
  | nil => intro xs _; simp
  | cons z l ih =>
    intro xs h
    have hz := h z (by simp)
    rw [List.foldl_cons, ih _ (fun y hy => h y (List.mem_cons_of_mem _ hy)), app_in xs z hz.1 hz.2, List.flatMap_cons, List.append_assoc]
theorem dec_flat (zs : List Int) : ∀ (l acc : List Int) (p : Nat), Carried l → p ≤ zs.length → zs.drop p = l.flatMap (fun z => uv z.toNat) →
    dec zs l.length p acc = some (acc ++ l, (zs.length : Int)) ∧ dec zs (l.length + 1) p acc = none := by
  intro l
  induction l with
  | nil =>
    intro acc p _ hp h
    have hp2 : p = zs.length := by
      have := congrArg List.length h
      simp at this; omega
    subst hp2
    refine ⟨by rw [List.length_nil, dec_zero, List.append_nil], ?_⟩
    rw [List.length_nil, dec_none 0 acc (rdAt_over (Nat.le_refl _))]
  | cons z l ih =>
    intro acc p hc hp h
    have hz := hc z (by simp)
    rw [List.flatMap_cons] at h
    have hr := rdAt_drop h (by omega)
    have hd : zs.drop (p + (uv z.toNat).length) = l.flatMap (fun z => uv z.toNat) := by
      rw [← List.drop_drop, h, List.drop_left]
    have hl : p + (uv z.toNat).length ≤ zs.length := by
      have := congrArg List.length h
      simp at this; omega
    have hi := ih (acc ++ [((z.toNat : Nat) : Int)]) (p + (uv z.toNat).length) (fun y hy => hc y (List.mem_cons_of_mem _ hy)) hl hd
    have hz2 : ((z.toNat : Nat) : Int) = z := by omega
    have hcast : ((p + (uv z.toNat).length : Nat) : Int) = (p : Int) + ((uv z.toNat).length : Int) := by omega
    rw [hcast] at hi
    rw [List.length_cons, dec_some _ acc hr, dec_some _ acc hr, hi.1, hi.2, hz2, List.append_assoc]
    exact ⟨rfl, rfl⟩
theorem code_back (l : List Int) (h : Carried l) (hl : l.length ≤ 6) : dcR (enc l) 0 l.length = some (l, ((enc l).length : Int)) ∧ dcR (enc l) 0 ((l.length : Int) + 1) = none := by
  have he := enc_flat l [] h
  have hd := dec_flat (enc l) l [] 0 h (Nat.zero_le _) (by rw [List.drop_zero]; unfold enc; rw [he, List.nil_append])
  constructor
  · unfold dcR
    rw [if_pos ⟨by omega, by omega⟩, Int.toNat_natCast]
    exact hd.1
  · unfold dcR
    rw [if_pos ⟨by omega, by omega⟩, show ((l.length : Int) + 1).toNat = l.length + 1 by omega]
    exact hd.2

/-! The calls at these arguments. -/
theorem read_full {lo hi : Nat} {w : World} {a : Option Addr} {m d c : Nat} {zs ds : List Int} (hr : Row .u8 lo hi w a (m + 1 + d) (appB zs ds)) (hh : hi ≤ w.heap.size) (hm : Hid (zs.length = m)) (hd : Hid (ds.length = d)) (h5 : d ≤ 5) (hm2 : m ≤ 2) (hc : m + 1 + d ≤ c) (hc2 : c ≤ maxLen) :
    Calls Try.prog 21 #[.slice a (m + 1 + d : Nat) c, .int .i64 m, .int .i64 d] w (Slice3 .u8 w.heap.size d ds ((m + 1 + d : Nat) : Int) true w) := by
  unfold maxLen at hc2
  have h := bytes_impl lo hi w a (m + 1 + d) c m d (appB zs ds) hr hh (by omega) hc hc2 (by omega)
  have h5' : ds.length ≤ 5 := by have := hd.out; omega
  have e1 := back_L zs ds h5'
  have e2 := back_Q zs ds h5'
  have e3 := back_B zs ds h5'
  rw [hm.out, hd.out] at e1 e2 e3
  rw [e1, e2, e3, hd.out] at h
  exact h
theorem read_short {lo hi : Nat} {w : World} {a : Option Addr} {m d c : Nat} {zs ds : List Int} (hr : Row .u8 lo hi w a (m + 1 + d) (appB zs ds)) (hh : hi ≤ w.heap.size) (hm : Hid (zs.length = m)) (hd : Hid (ds.length = d)) (h5 : d ≤ 5) (hm2 : m ≤ 2) (hc : m + 1 + d ≤ c) (hc2 : c ≤ maxLen) :
    Calls Try.prog 21 #[.slice a (m + 1 + d : Nat) c, .int .i64 m, .int .i64 ((d : Int) - 1)] w (Slice3 .u8 w.heap.size 0 [] 0 false w) := by
  unfold maxLen at hc2
  have h := bytes_impl lo hi w a (m + 1 + d) c m ((d : Int) - 1) (appB zs ds) hr hh (by omega) hc hc2 (by omega)
  have h5' : ds.length ≤ 5 := by have := hd.out; omega
  have e1 := short_L zs ds h5'
  have e2 := short_Q zs ds h5'
  have e3 := short_B zs ds h5'
  rw [hm.out, hd.out] at e1 e2 e3
  rw [e1, e2, e3] at h
  exact h
theorem decode_full {lo hi : Nat} {w : World} {a : Option Addr} {n j c : Nat} {l : List Int} (hr : Row .u8 lo hi w a n (enc l)) (hh : hi ≤ w.heap.size) (hl : Hid (l.length = j)) (hj : j ≤ 6) (hc : Carried l) (hn : n ≤ 36) :
    Calls Try.prog 24 #[.slice a n c, .int .i64 0, .int .i64 j] w (Slice3 .i64 w.heap.size j l n true w) := by
  have h := decode_impl lo hi w a n c 0 j (enc l) hr hh (by omega)
  have hl' := hl.out
  have e := (code_back l hc (by omega)).1
  rw [hl', hr.len] at e
  have e1 : dcL (enc l) 0 j = l := by unfold dcL; rw [e]
  have e2 : dcQ (enc l) 0 j = n := by unfold dcQ; rw [e]
  have e3 : dcB (enc l) 0 j = true := by unfold dcB; rw [e]
  rw [e1, e2, e3, hl'] at h
  exact h
theorem decode_more {lo hi : Nat} {w : World} {a : Option Addr} {n j c : Nat} {l : List Int} (hr : Row .u8 lo hi w a n (enc l)) (hh : hi ≤ w.heap.size) (hl : Hid (l.length = j)) (hj : j ≤ 6) (hc : Carried l) (hn : n ≤ 36) :
    Calls Try.prog 24 #[.slice a n c, .int .i64 0, .int .i64 ((j : Int) + 1)] w (Slice3 .i64 w.heap.size 0 [] 0 false w) := by
  have h := decode_impl lo hi w a n c 0 ((j : Int) + 1) (enc l) hr hh (by omega)
  have hl' := hl.out
  have e := (code_back l hc (by omega)).2
  rw [hl'] at e
  have e1 : dcL (enc l) 0 ((j : Int) + 1) = [] := by unfold dcL; rw [e]
  have e2 : dcQ (enc l) 0 ((j : Int) + 1) = 0 := by unfold dcQ; rw [e]
  have e3 : dcB (enc l) 0 ((j : Int) + 1) = false := by unfold dcB; rw [e]
  rw [e1, e2, e3] at h
  exact h

theorem bytes_under {B C : Nat} {w w' : World} {a : Option Addr} {n : Nat} (h : Draw.Bytes B w a n) (hb : Below C w w') (hB : B ≤ C) : Draw.Bytes B w' a n :=
  ⟨h.1, fun j hj => by
    obtain ⟨b, off, x, ha, hbB, hx, hc⟩ := h.2 j hj
    exact ⟨b, off, x, ha, hbB, hx, by rw [Mem.cell_of_heap (hb.block b (by omega))]; exact hc⟩⟩
theorem mul3 (x y z : Nat) (hx : x < 256) (hy : y < 256) (hz : z < 256) : ∃ s u : Nat, wrap64 ((x : Int) * (y : Int)) = (s : Int) ∧ wrap64 ((s : Int) * (z : Int)) = (u : Int) ∧ u ≤ 16581375 := by
  have h1 : x * y ≤ 255 * 255 := Nat.mul_le_mul (by omega) (by omega)
  have h2 : x * y * z ≤ 65025 * 255 := Nat.mul_le_mul (by omega) (by omega)
  have e1 : (x : Int) * (y : Int) = ((x * y : Nat) : Int) := by simp
  have e2 : ((x * y : Nat) : Int) * (z : Int) = ((x * y * z : Nat) : Int) := by simp
  refine ⟨x * y, x * y * z, ?_, ?_, h2⟩
  · rw [e1]; generalize x * y = s at *; rw [IntWalk.wrap64_in _ ⟨by omega, by omega⟩]
  · rw [e2]; generalize x * y * z = u at *; rw [IntWalk.wrap64_in _ ⟨by omega, by omega⟩]
theorem carried_wf {l : List Int} (h : Carried l) : ∀ z ∈ l, (Lit.int .i64 z).wf = true := fun z hz => WalkArith.wf_i64 (by have := h z hz; omega)

set_option maxHeartbeats 4000000 in
set_option maxRecDepth 100000 in
theorem walk_small (a : Option Addr) (n c : Nat) (w : World) (hb : Draw.Bytes w.heap.size w a n) (hn : n ≤ 1048576) :
    Calls Try.prog 4 #[.slice a n c] w fun e w' => e = .returned (.bool true) ∧ Below w.heap.size w w' := by
  obtain ⟨i0, hi0, hz0, hz1, hz2⟩ := info_parts Nts.info
  go_enter Try.func4, Try.ntmps4
  go_wp2_with (go_at_call 12; go_in)
  go_at_call 19
  refine (Draw.draw_append_bytes w.heap.size a n c _ hb (Nat.le_refl _)).mono ?_
  rintro e w1 ⟨q, m, k, zs, q2, d, k2, ds, rfl, hq1, hm, hk, hkm, hu1, hd, hk2, hkm2, hb1⟩
  have hs1 := hb1.size
  have HM := Lib.hid hq1.len
  have HD := Lib.hid hu1.len
  have HL : Hid ((appB zs ds).length = m + 1 + d) := by
    have := back_len zs ds (by have := HD.out; omega)
    rw [HM.out, HD.out] at this; exact this
  go_wp2_with fail
  go_at_call 20
  refine (Var.bytes_impl _ _ _ _ _ _ _ _ _ _ _ zs ds hq1.row hu1.row (Nat.le_refl _) (Nat.le_refl _) (by omega) (by omega)).mono ?_
  rintro e w2 ⟨q3, c3, rfl, ho2, g1, g2, hb2⟩
  rw [HL.out] at ho2 g1 ⊢
  have hs2 := hb2.size
  have hB2 := hb1.trans (hb2.mono hs1)
  have hu2 := hu1.below hb2
  go_wp2_with fail
  go_at_call 21
  refine (read_full ho2.row (Nat.le_refl _) HM HD hd hm g1 g2).mono ?_
  rintro e w3 ⟨q4, c4, rfl, ho3, _, _, hb3⟩
  have hs3 := hb3.size
  have hB3 := hB2.trans (hb3.mono hB2.size)
  have hu3 := hu2.below hb3
  have hr3 := ho2.below hb3
  go_wp2_with fail
  go_at_call 21
  refine (read_short hr3.row (by omega) HM HD hd hm g1 g2).mono ?_
  rintro e w4 ⟨q5, c5, rfl, ho4, _, _, hb4⟩
  have hs4 := hb4.size
  have hB4 := hB3.trans (hb4.mono hB3.size)
  have hu4 := hu3.below hb4
  have hv4 := ho3.below hb4
  go_wp2_with fail
  go_at_call 16
  refine (SameB.eq_same _ _ _ _ _ q4 q2 d c4 _ _ hv4.row hu4.row (by omega)).mono ?_
  rintro e w5 ⟨rfl, m5, hw5⟩
  have hB5 : Below w.heap.size w w5 := by rw [hw5]; exact below_drewN hB4 _
  clear hw5
  have hs5 := hB5.size
  have hown := OwnI.made .i64 3 (base := w.heap.size) w5 hs5
  have hB6 := hB5.alloc hs5 (.cells #[] 3)
  go_wp2_with fail
  go_loopw [12, 13] (fun v i wr => ∃ (j : Nat) (l : List Int), j ≤ 6 ∧ i = .int .i64 j ∧ OwnI .i64 3 w.heap.size wr v j l ∧ Hid (Carried l) ∧ Below w.heap.size w wr) (fun _ i _ => 6 - (intOf i).toNat)
  case atStart => exact ⟨0, [], by omega, rfl, hown, (by intro z hz; cases hz), hB6⟩
  case round =>
    obtain ⟨j, l, hj, rfl, ho, hcar, hbw⟩ := hrel
    clear hown hB6
    have hbs := hbw.size
    have hbr := bytes_under hb hbw (Nat.le_refl _)
    go_wp2_with fail
    go_at_call 22
    refine (Draw.at_any _ a n c 0 _ hbr (by omega) hn).mono ?_
    rintro e w' ⟨⟨x, hx, rfl⟩, rfl⟩
    by_cases hlt : j < x % 6
    · have hlt' : decide ((j : Int) < (x : Int) % 6) = true := by simp; omega
      go_wp2_with fail
      go_at_call 22
      refine (Draw.at_any _ a n c (j + 1) _ hbr (by omega) hn).mono ?_
      rintro e w' ⟨⟨x1, hx1, rfl⟩, rfl⟩
      go_wp2_with fail
      go_at_call 22
      refine (Draw.at_any _ a n c (j + 2) _ hbr (by omega) hn).mono ?_
      rintro e w' ⟨⟨x2, hx2, rfl⟩, rfl⟩
      go_wp2_with fail
      go_at_call 22
      refine (Draw.at_any _ a n c (j + 3) _ hbr (by omega) hn).mono ?_
      rintro e w' ⟨⟨x3, hx3, rfl⟩, rfl⟩
      obtain ⟨s, u, p0, p1, p2⟩ := mul3 x1 x2 x3 hx1 hx2 hx3
      have hw1 := ho.alloc (.cells #[.int .i64 (u : Int)] 3)
      go_wp2_with (at_builtin; refine wpList_append_one rfl _ _ 35 rfl w.heap.size 3 i0 _ 8 Try.underlying35 hi0 hz0 hz1 hz2 rfl _ j l rfl hw1 wr.heap.size 1 (u : Int) rfl ?c2 ?c3 ?c4 ?c5 ?_; (case c2 => rw [World.cell?_alloc_at _ _ _ _ rfl]; rfl); (case c3 => unfold maxLen; omega); (case c4 => omega); (case c5 => simp; omega); intro v' w' ho2 hb')
      go_roundw
      case rel =>
        refine ⟨j + 1, _, by omega, by go_num, ho2, ?_, (hbw.alloc hbs _).trans hb'⟩
        intro z hz
        rcases List.mem_append.1 hz with hz | hz
        · exact hcar.out z hz
        · simp at hz; subst hz; exact ⟨by omega, by omega⟩
      case measure => simp [intOf]; omega
    · have hlt' : decide ((j : Int) < (x : Int) % 6) = false := by simp; omega
      have hlen := ho.len
      have HLn := Lib.hid hlen
      clear hlen
      obtain ⟨q6, c6, rfl, _, _, ho6⟩ := ho.own (carried_wf hcar.out)
      have hel := enc_len l
      rw [HLn.out] at hel
      go_wp2_with fail
      go_at_call 23
      refine (Var.encode_impl _ _ _ _ _ _ l ho6.row (Nat.le_refl _) (by omega)).mono ?_
      rintro e w7 ⟨q7, c7, rfl, ho7, _, _, hb7⟩
      have hs7 := hb7.size
      have hB7 := hbw.trans (hb7.mono hbs)
      have hl7 := ho6.below hb7
      go_wp2_with fail
      go_at_call 24
      refine (decode_full ho7.row (Nat.le_refl _) HLn hj hcar.out (by omega)).mono ?_
      rintro e w8 ⟨q8, c8, rfl, ho8, _, _, hb8⟩
      have hs8 := hb8.size
      have hB8 := hB7.trans (hb8.mono hB7.size)
      have hl8 := hl7.below hb8
      have he8 := ho7.below hb8
      go_wp2_with fail
      go_at_call 24
      refine (decode_more he8.row (by omega) HLn hj hcar.out (by omega)).mono ?_
      rintro e w9 ⟨q9, c9, rfl, ho9, _, _, hb9⟩
      have hs9 := hb9.size
      have hB9 := hB8.trans (hb9.mono hB8.size)
      have hl9 := hl8.below hb9
      have hd9 := ho8.below hb9
      go_wp2_with fail
      go_at_call 25
      refine (SameI.eq_same _ _ _ _ _ q8 q6 j c8 _ _ hd9.row hl9.row (by omega)).mono ?_
      rintro e w10 ⟨rfl, m10, hw10⟩
      have hB10 : Below w.heap.size w w10 := by rw [hw10]; exact below_drewN hB9 _
      clear hw10
      go_wp2
      go_ret
      exact ⟨rfl, hB10⟩

set_option maxRecDepth 100000 in
theorem law_walk (a : Option Addr) (n c : Nat) (zs : List Int) (w : World) (h : Row .u8 0 w.heap.size w a n zs) :
    Calls Try.prog 4 #[.slice a n c] w fun e w' => e = .returned (.bool true) ∧ Below w.heap.size w w' := by
  by_cases k : n ≤ 1048576
  · exact walk_small a n c w (Draw.bytes_of_row h (Nat.le_refl _) (by omega)) k
  · have k' : (1048576 : Int) < n := by omega
    go_enter Try.func4, Try.ntmps4
    go_wp2
    go_ret
    exact ⟨rfl, Below.refl _ _⟩
end Go.Proofs.Ytplkkmjfglgecaa.FnByteStringsW
