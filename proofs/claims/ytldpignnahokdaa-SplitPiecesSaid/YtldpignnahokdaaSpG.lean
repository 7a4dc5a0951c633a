/-
  Contract of the reference of layer 11: Stripes.
-/
import Derived.Test.YtldpignnahokdaaSpF
namespace Go.Proofs.Ytldpignnahokdaa
open Go.ChangeShapes Go.WideShapes Go.ChangeAt Go.RowKit Wd

theorem strict_lt {xs : List Int} (h : xs.Pairwise (· < ·)) {i j : Nat} (hij : i < j) (hj : j < xs.length) : xs.getD i 0 < xs.getD j 0 := by
  have := List.pairwise_iff_getElem.1 h i j (by omega) hj hij
  rw [List.getD, List.getD, List.getElem?_eq_getElem (by omega), List.getElem?_eq_getElem hj]
  exact this
theorem getD_mem {xs : List Int} {i : Nat} (h : i < xs.length) : xs.getD i 0 ∈ xs := by
  rw [List.getD, List.getElem?_eq_getElem h]
  exact List.getElem_mem _
/-- A number that is there already. -/
theorem set_old (xs : List Int) (s : Int) (k : Nat) (hk : k < (Srt.set xs).length) (he : (Srt.set xs).getD k 0 = s) : Srt.set (xs ++ [s]) = Srt.set xs :=
  Srt.set_eq (Srt.set_strict xs) fun z => by
    rw [Srt.set_mem, List.mem_append, List.mem_singleton]
    constructor
    · exact .inl
    · rintro (h | rfl)
      · exact h
      · rw [← Srt.set_mem, ← he]; exact getD_mem hk
/-- A new number, at its place. -/
theorem set_new (xs : List Int) (s : Int) (k : Nat) (hk : k ≤ (Srt.set xs).length) (hl : ∀ i, i < k → (Srt.set xs).getD i 0 < s) (hu : k < (Srt.set xs).length → s < (Srt.set xs).getD k 0) :
    Srt.set (xs ++ [s]) = (Srt.set xs).take k ++ s :: (Srt.set xs).drop k := by
  have hs := Srt.set_strict xs
  refine Srt.set_eq ?_ fun z => ?_
  · rw [List.pairwise_append, List.pairwise_cons]
    refine ⟨hs.sublist (List.take_sublist _ _), ⟨fun b hb => ?_, hs.sublist (List.drop_sublist _ _)⟩, fun a ha b hb => ?_⟩
    · obtain ⟨i, hi, rfl⟩ := List.mem_iff_getElem.1 hb
      rw [List.length_drop] at hi
      rw [List.getElem_drop]
      have h1 := hu (by omega)
      by_cases e : i = 0
      · subst e
        rw [List.getD, List.getElem?_eq_getElem (by omega)] at h1
        exact h1
      · have h2 := strict_lt hs (show k < k + i by omega) (by omega)
        have e2 : (Srt.set xs).getD (k + i) 0 = (Srt.set xs)[k + i] := by rw [List.getD, List.getElem?_eq_getElem (by omega)]; rfl
        rw [← e2]
        omega
    · obtain ⟨i, hi, rfl⟩ := List.mem_iff_getElem.1 ha
      rw [List.length_take] at hi
      rw [List.getElem_take]
      have h1 := hl i (by omega)
      have e1 : (Srt.set xs).getD i 0 = (Srt.set xs)[i] := by rw [List.getD, List.getElem?_eq_getElem (by omega)]; rfl
      rw [e1] at h1
      rcases List.mem_cons.1 hb with rfl | hb
      · exact h1
      · obtain ⟨j, hj, rfl⟩ := List.mem_iff_getElem.1 hb
        rw [List.length_drop] at hj
        rw [List.getElem_drop]
        exact List.pairwise_iff_getElem.1 hs i (k + j) (by omega) (by omega) (by omega)
  · rw [List.mem_append, List.mem_cons, List.mem_append, List.mem_singleton, ← Srt.set_mem xs]
    have e : z ∈ Srt.set xs ↔ z ∈ (Srt.set xs).take k ∨ z ∈ (Srt.set xs).drop k := by rw [← List.mem_append, List.take_append_drop]
    rw [e]
    constructor
    · rintro (h | h | h)
      · exact .inl (.inl h)
      · exact .inr h
      · exact .inl (.inr h)
    · rintro ((h | h) | h)
      · exact .inl h
      · exact .inr (.inr h)
      · exact .inr (.inl h)
theorem vw_take {w : World} {base : Nat} {e : TypeId} {g n cap : Nat} {xs : List Value} (h : w.ownsRow base e 1 (.slice (some ⟨g, 0, none⟩) n cap) n xs) (k : Nat) (hk : k ≤ n) : Vw w (some ⟨g, 0, none⟩) (xs.take k) := by
  refine .inr ⟨g, 0, rfl, (h.lt g rfl).2, fun j u hj => ?_⟩
  have hjk : j < k := by
    have := (List.getElem?_eq_some_iff.1 hj).1
    rw [List.length_take] at this
    omega
  rw [Nat.zero_add, h.cellAt j (by omega)]
  rw [List.getElem?_take, if_pos hjk] at hj
  exact hj
theorem vw_drop {w : World} {base : Nat} {e : TypeId} {g n cap : Nat} {xs : List Value} (h : w.ownsRow base e 1 (.slice (some ⟨g, 0, none⟩) n cap) n xs) (k : Nat) : Vw w (some ⟨g, k, none⟩) (xs.drop k) := by
  refine .inr ⟨g, k, rfl, (h.lt g rfl).2, fun j u hj => ?_⟩
  rw [List.getElem?_drop] at hj
  have := (List.getElem?_eq_some_iff.1 hj).1
  have hl := h.1
  rw [h.cellAt (k + j) (by omega)]
  exact hj
theorem iV_lenT {S : List Int} {m : Nat} (hm : m ≤ S.length) : ((iV S).take m).length = m * 1 := by rw [List.length_take, List.length_map]; omega
theorem iV_lenD (S : List Int) (m : Nat) : ((iV S).drop m).length = (S.length - m) * 1 := by rw [List.length_drop, List.length_map, Nat.mul_one]
theorem iV_oneT (S : List Int) (m : Nat) : ∀ u ∈ (iV S).take m, u.oneCell' = true := by
  intro u hu
  obtain ⟨x, -, rfl⟩ := List.mem_map.1 (List.mem_of_mem_take hu)
  rfl
theorem iV_oneD (S : List Int) (m : Nat) : ∀ u ∈ (iV S).drop m, u.oneCell' = true := by
  intro u hu
  obtain ⟨x, -, rfl⟩ := List.mem_map.1 (List.mem_of_mem_drop hu)
  rfl
/-- Between two pieces: the numbers so far. -/
structure RsAt (w W : World) (B : Nat) (v : Value) (xs : List Int) : Prop where
  own : W.ownsRow B 3 1 v (Srt.set xs).length (iV (Srt.set xs))
  bel : Below B w W
set_option maxHeartbeats 4000000 in
theorem rstripes_c (a b c n s : Int) (w : World) (ha : 0 ≤ a ∧ a < 18446744073709551616) (hb : 0 ≤ b ∧ b < 18446744073709551616) (hs : s ≤ 9223372036854775807) :
    Calls Try.prog 18 #[.agg (axV a b c n), .int .i64 s] w fun e w' => ∃ v, e = .returned v ∧ w'.ownsRow w.heap.size 3 1 v (Srt.set (stL (Sp.pieces a b c n) s)).length (iV (Srt.set (stL (Sp.pieces a b c n) s))) ∧ Below w.heap.size w w' := by
  have HB := Lib.hid ((Below.refl w.heap.size w).alloc (Nat.le_refl _) (.cells (axV a b c n) 29))
  have HC := Lib.hid (CsAt.new w 29 (axV a b c n))
  go_enter Try.func18, Try.ntmps18
  go_upto_region 2 with (fail)
  generalize w.alloc (.cells (axV a b c n) 29) = w1 at *
  go_wp2_with (refine wpList_load_row rfl 29 _ rfl w.heap.size rfl 29 _ (0, 0) _ HC.out Try.underlying29 rfl (by kernel_rfl) ?_)
  refine (rpieces_c _ _ _ _ _ ha hb).mono ?_
  rintro e w3 ⟨v3, rfl, hown, hb3⟩
  have HB3 := Lib.hid (HB.out.trans (hb3.mono HB.out.size))
  have HOK := Lib.hid (Sp.pieces_ok (c := c) (n := n) ha hb)
  have hpl := Sp.pieces_len a b c n
  generalize hlq : Sp.pieces a b c n = l at *
  have HLQ := Lib.hid hlq
  clear hlq
  have HO := Lib.hid hown
  obtain ⟨p, cap, rfl, hv, -, -⟩ := own_form hown
  clear hv hown hb3 HB HC
  have HL := Lib.hid hpl
  clear hpl
  go_wp2_with fail
  go_loopw [5, 7] (fun lv iv wr => ∃ k : Nat, k ≤ l.length ∧ iv = .int .i64 k ∧ RsAt w3 wr w3.heap.size lv ((stL l s).take k)) (fun _ iv _ => l.length - (intOf iv).toNat)
  case atStart => exact ⟨0, Nat.zero_le _, rfl, World.ownsRow_nil _ _ _ _, Below.refl _ _⟩
  case round =>
    obtain ⟨k, hk, rfl, hr⟩ := hrel
    have HR := Lib.hid hr
    clear hr
    by_cases hlt : k < l.length
    · have hown := own_low HO.out HR.out.bel
      obtain ⟨g, cap', hp, -, -, -⟩ := own_pos hown (by omega)
      obtain ⟨rfl, rfl⟩ : p = some ⟨g, 0, none⟩ ∧ cap = cap' := by simpa using hp
      clear hp
      have d0 := hown.cellAt (k * 3 + 0) (by omega)
      rw [Sp.cellsOf_at l k 0 hlt (by omega)] at d0
      have hq := HOK.out (l.getD k Sp.p0) (by rw [List.getD, List.getElem?_eq_getElem hlt]; exact List.getElem_mem _)
      have HT := Lib.hid (stL_take l s k hlt)
      generalize l.getD k Sp.p0 = q at *
      obtain ⟨qa, qn, qs⟩ := q
      have q0 : 0 ≤ qa := hq.a0
      have q1 : qa < 18446744073709551616 := hq.a1
      replace d0 : wr.cell? ⟨g, k * 3, none⟩ = some (.int .u64 qa) := d0
      have hxl : ((stL l s).take k).length ≤ 4 := by rw [List.length_take, stL_len]; have := HL.out; omega
      clear hq hown
      generalize hxs : (stL l s).take k = xs at *
      have HXS := Lib.hid hxs
      clear hxs
      have hml := Srt.set_len xs
      have HML := Lib.hid (show (Srt.set xs).length ≤ 4 by omega)
      clear hml hxl
      go_wp2_with fail
      refine (rstripe_c _ _ _ q0 q1 hs).mono ?_
      rintro e w5 ⟨rfl, rfl⟩
      generalize hst : Sp.stripe qa s = st at *
      have HST := Lib.hid hst
      clear hst d0
      generalize hSq : Srt.set xs = S at *
      have HSQ := Lib.hid hSq
      clear hSq
      have hO5 := HR.out.own
      rw [HSQ.out] at hO5
      rcases hO5.2 with ⟨hv0, hn0⟩ | ⟨g5, cap5, cur, hv5, hg5, -, hcap5, -, -, -⟩
      · subst hv0
        have hS0 : S = [] := List.eq_nil_of_length_eq_zero hn0
        subst hS0
        clear hO5 hn0
        have hl4 := HL.out
        have HN := Lib.hid (show Srt.set ((stL l s).take (k + 1)) = [st] by
          rw [HT.out]
          have := set_new xs st 0 (Nat.zero_le _) (fun i hi => absurd hi (Nat.not_lt_zero _)) (by rw [HSQ.out]; exact fun h => absurd h (Nat.lt_irrefl _))
          rw [HSQ.out] at this
          exact this)
        go_wp2_with fail
        go_loop [9] (fun kv => kv = .int .i64 0) (fun _ => 0)
        case atStart => rfl
        case round =>
          subst hrel
          have H6 := Lib.hid (World.ownsRow_lit (base := wr.heap.size) (e := 3) (size := 1) wr #[] 0 (Nat.le_refl _) (Nat.zero_le _) rfl)
          have HB6 := Lib.hid ((Below.refl wr.heap.size wr).alloc (Nat.le_refl _) (.cells #[] 3))
          have HS6 := Lib.hid (show wr.heap.size ≤ (wr.alloc (.cells #[] 3)).heap.size by simp)
          go_wp2_with (at_builtin; refine wpList_cat rfl _ _ 40 rfl wr.heap.size 3 _ 1 8 Try.underlying40 info_int rfl (by omega) (by omega) _ 0 [] rfl H6.out none 0 _ [] rfl (.inl rfl) rfl (fun u hu => by cases hu) (by omega) HS6.out ?_)
          intro v7 w7 hown7 hb7
          have H7 := Lib.hid hown7
          have HB7 := Lib.hid (HB6.out.trans hb7)
          have HS7 := Lib.hid HB7.out.size
          clear hown7 hb7 H6 HB6 HS6
          go_wp2_with (at_builtin; refine wpList_push rfl _ _ 40 rfl wr.heap.size 3 _ 1 8 Try.underlying40 info_int rfl (by omega) (by omega) _ _ _ rfl H7.out #[.int .i64 st] rfl (by simp [Value.oneCell']) _ rfl rfl (by omega) HS7.out ?_)
          intro v9 w9 hown9 hb9
          have H9 := Lib.hid hown9
          have HB9 := Lib.hid (HB7.out.trans hb9)
          have HS9 := Lib.hid HB9.out.size
          clear hown9 hb9 H7 HB7 HS7
          go_wp2_with (at_builtin; refine wpList_cat rfl _ _ 40 rfl wr.heap.size 3 _ 1 8 Try.underlying40 info_int rfl (by omega) (by omega) _ _ _ rfl H9.out none 0 _ [] rfl (.inl rfl) rfl (fun u hu => by cases hu) (by omega) HS9.out ?_)
          intro v10 w10 hown10 hb10
          have HF := Lib.hid (show RsAt w3 w10 w3.heap.size v10 ((stL l s).take (k + 1)) from ⟨by
              rw [HN.out]
              have := own_mono hown10 HR.out.bel.size
              simpa only [iV, List.map_append, List.map_cons, List.map_nil, List.nil_append, List.append_nil, List.length_cons, List.length_nil, Nat.zero_add, Nat.add_zero] using this,
            HR.out.bel.trans ((HB9.out.trans hb10).mono HR.out.bel.size)⟩)
          clear hown10 hb10 HB9 HS9 H9
          go_wp2_with fail
          go_roundw
          case rel => exact ⟨k + 1, by omega, by go_num, HF.out⟩
          case measure => simp [intOf]; omega
      · subst hv5
        have HO5 := Lib.hid hO5
        have HG5 := Lib.hid (And.intro hg5 hcap5)
        clear hO5
        go_wp2_with fail
        go_loop [9] (fun kv => ∃ m : Nat, m ≤ S.length ∧ kv = .int .i64 m ∧ ∀ i, i < m → S.getD i 0 < st) (fun kv => S.length - (intOf kv).toNat)
        case atStart => exact ⟨0, Nat.zero_le _, rfl, fun i hi => absurd hi (Nat.not_lt_zero _)⟩
        case round =>
          obtain ⟨m, hmS, rfl, hlow⟩ := hrel
          have HLOW := Lib.hid hlow
          clear hlow
          have hmc : m ≤ cap5 := by omega
          have hml4 := HML.out
          have hl4 := HL.out
          by_cases hm : m < S.length
          · have c0 := HO5.out.cellAt m (by omega)
            rw [iV_at S m hm] at c0
            have gi : (m : Int) < S.length := by omega
            have gd : decide ((m : Int) < ((S.length : Nat) : Int)) = true := by simpa using hm
            have gd2 : decide (m < S.length) = true := by simpa using hm
            by_cases hlt2 : S.getD m 0 < st
            · have HL2 := Lib.hid (show ∀ i, i < m + 1 → S.getD i 0 < st from fun i hi => by
                by_cases e : i = m
                · subst e; exact hlt2
                · exact HLOW.out i (by omega))
              have gx : decide (S.getD m 0 < st) = true := by simpa using hlt2
              generalize S.getD m 0 = y at c0 hlt2 gx
              go_wp2_with fail
              go_round
              case rel => exact ⟨m + 1, by omega, by go_num, HL2.out⟩
              case measure => simp [intOf]; omega
            · have gx : decide (S.getD m 0 < st) = false := by simpa using hlt2
              by_cases he : S.getD m 0 = st
              · have HN := Lib.hid (show Srt.set ((stL l s).take (k + 1)) = S by
                  rw [HT.out, ← HSQ.out]
                  exact set_old xs st m (by rw [HSQ.out]; exact hm) (by rw [HSQ.out]; exact he))
                have ge : (S.getD m 0 == st) = true := by simpa using he
                generalize S.getD m 0 = y at c0 hlt2 gx he ge
                have HF := Lib.hid (show RsAt w3 wr w3.heap.size (.slice (some ⟨g5, 0, none⟩) S.length cap5) ((stL l s).take (k + 1)) from ⟨by rw [HN.out]; exact HO5.out, HR.out.bel⟩)
                go_wp2_with fail
                go_roundw
                case rel => exact ⟨k + 1, by omega, by go_num, HF.out⟩
                case measure => simp [intOf]; omega
              · have ge : (S.getD m 0 == st) = false := by simpa using he
                have HU := Lib.hid (show m < S.length → st < S.getD m 0 from fun _ => by omega)
                generalize hy : S.getD m 0 = y at c0 hlt2 gx he ge
                clear hy
                have HN := Lib.hid (show Srt.set ((stL l s).take (k + 1)) = S.take m ++ st :: S.drop m by
                  rw [HT.out, ← HSQ.out]
                  exact set_new xs st m (by rw [HSQ.out]; exact hmS) (by rw [HSQ.out]; exact HLOW.out) (by rw [HSQ.out]; exact HU.out))
                have H6 := Lib.hid (World.ownsRow_lit (base := wr.heap.size) (e := 3) (size := 1) wr #[] 0 (Nat.le_refl _) (Nat.zero_le _) rfl)
                have HB6 := Lib.hid ((Below.refl wr.heap.size wr).alloc (Nat.le_refl _) (.cells #[] 3))
                have HS6 := Lib.hid (show wr.heap.size ≤ (wr.alloc (.cells #[] 3)).heap.size by simp)
                have HVT := Lib.hid (show Vw (wr.alloc (.cells #[] 3)) (some ⟨g5, 0, none⟩) ((iV S).take m) from Vw.low (w := wr) (vw_take HO5.out m hmS) ((Below.refl wr.heap.size wr).alloc (Nat.le_refl _) _))
                go_wp2_with (at_builtin; refine wpList_cat rfl _ _ 40 rfl wr.heap.size 3 _ 1 8 Try.underlying40 info_int rfl (by omega) (by omega) _ 0 [] rfl H6.out (some ⟨g5, 0, none⟩) m _ ((iV S).take m) rfl HVT.out (iV_lenT hmS) (iV_oneT _ _) (by omega) HS6.out ?_)
                intro v7 w7 hown7 hb7
                have H7 := Lib.hid hown7
                have HB7 := Lib.hid (HB6.out.trans hb7)
                have HS7 := Lib.hid HB7.out.size
                clear hown7 hb7 H6 HB6 HS6 HVT
                go_wp2_with (at_builtin; refine wpList_push rfl _ _ 40 rfl wr.heap.size 3 _ 1 8 Try.underlying40 info_int rfl (by omega) (by omega) _ _ _ rfl H7.out #[.int .i64 st] rfl (by simp [Value.oneCell']) _ rfl rfl (by omega) HS7.out ?_)
                intro v9 w9 hown9 hb9
                have H9 := Lib.hid hown9
                have HB9 := Lib.hid (HB7.out.trans hb9)
                have HS9 := Lib.hid HB9.out.size
                have HVD := Lib.hid (show Vw w9 (some ⟨g5, m, none⟩) ((iV S).drop m) from Vw.low (w := wr) (vw_drop HO5.out m) HB9.out)
                clear hown9 hb9 H7 HB7 HS7
                go_wp2_with (at_builtin; refine wpList_cat rfl _ _ 40 rfl wr.heap.size 3 _ 1 8 Try.underlying40 info_int rfl (by omega) (by omega) _ _ _ rfl H9.out (some ⟨g5, m, none⟩) (S.length - m) _ ((iV S).drop m) rfl HVD.out (iV_lenD _ _) (iV_oneD _ _) (by omega) HS9.out ?_)
                intro v10 w10 hown10 hb10
                have HF := Lib.hid (show RsAt w3 w10 w3.heap.size v10 ((stL l s).take (k + 1)) from ⟨by
                    rw [HN.out]
                    have e1 : (S.take m ++ st :: S.drop m).length = m + 1 + (S.length - m) := by rw [List.length_append, List.length_take, List.length_cons, List.length_drop]; omega
                    rw [e1]
                    have := own_mono hown10 HR.out.bel.size
                    simpa only [iV, List.map_append, List.map_cons, List.map_take, List.map_drop, List.nil_append, List.append_assoc, List.singleton_append, List.cons_append] using this,
                  HR.out.bel.trans ((HB9.out.trans hb10).mono HR.out.bel.size)⟩)
                clear hown10 hb10 HB9 HS9 HVD H9
                go_wp2_with fail
                go_roundw
                case rel => exact ⟨k + 1, by omega, by go_num, HF.out⟩
                case measure => simp [intOf]; omega
          · have HME := Lib.hid (show m = S.length by omega)
            have gd : decide ((m : Int) < ((S.length : Nat) : Int)) = false := by simpa using hm
            have gd2 : decide (m < S.length) = false := by simpa using hm
            have HU := Lib.hid (show m < S.length → st < S.getD m 0 from fun h => absurd h hm)
            by_cases hcm : cap5 = m
            · subst hcm
              have HDN := Lib.hid (show S.drop cap5 = [] from List.drop_of_length_le (by have := HME.out; omega))
              have HN := Lib.hid (show Srt.set ((stL l s).take (k + 1)) = S.take cap5 ++ st :: S.drop cap5 by
                rw [HT.out, ← HSQ.out]
                exact set_new xs st cap5 (by rw [HSQ.out]; exact hmS) (by rw [HSQ.out]; exact HLOW.out) (by rw [HSQ.out]; exact HU.out))
              have H6 := Lib.hid (World.ownsRow_lit (base := wr.heap.size) (e := 3) (size := 1) wr #[] 0 (Nat.le_refl _) (Nat.zero_le _) rfl)
              have HB6 := Lib.hid ((Below.refl wr.heap.size wr).alloc (Nat.le_refl _) (.cells #[] 3))
              have HS6 := Lib.hid (show wr.heap.size ≤ (wr.alloc (.cells #[] 3)).heap.size by simp)
              have HVT := Lib.hid (show Vw (wr.alloc (.cells #[] 3)) (some ⟨g5, 0, none⟩) ((iV S).take cap5) from Vw.low (w := wr) (vw_take HO5.out cap5 hmS) ((Below.refl wr.heap.size wr).alloc (Nat.le_refl _) _))
              go_wp2_with (at_builtin; refine wpList_cat rfl _ _ 40 rfl wr.heap.size 3 _ 1 8 Try.underlying40 info_int rfl (by omega) (by omega) _ 0 [] rfl H6.out (some ⟨g5, 0, none⟩) cap5 _ ((iV S).take cap5) rfl HVT.out (iV_lenT hmS) (iV_oneT _ _) (by omega) HS6.out ?_)
              intro v7 w7 hown7 hb7
              have H7 := Lib.hid hown7
              have HB7 := Lib.hid (HB6.out.trans hb7)
              have HS7 := Lib.hid HB7.out.size
              clear hown7 hb7 H6 HB6 HS6 HVT
              go_wp2_with (at_builtin; refine wpList_push rfl _ _ 40 rfl wr.heap.size 3 _ 1 8 Try.underlying40 info_int rfl (by omega) (by omega) _ _ _ rfl H7.out #[.int .i64 st] rfl (by simp [Value.oneCell']) _ rfl rfl (by omega) HS7.out ?_)
              intro v9 w9 hown9 hb9
              have H9 := Lib.hid hown9
              have HB9 := Lib.hid (HB7.out.trans hb9)
              have HS9 := Lib.hid HB9.out.size
              have HVD := Lib.hid (show Vw w9 (some ⟨g5, 0, none⟩) [] from Vw.low (w := wr) (.inl rfl) HB9.out)
              clear hown9 hb9 H7 HB7 HS7
              go_wp2_with (at_builtin; refine wpList_cat rfl _ _ 40 rfl wr.heap.size 3 _ 1 8 Try.underlying40 info_int rfl (by omega) (by omega) _ _ _ rfl H9.out (some ⟨g5, 0, none⟩) 0 _ [] rfl HVD.out rfl (fun u hu => by cases hu) (by omega) HS9.out ?_)
              intro v10 w10 hown10 hb10
              have HF := Lib.hid (show RsAt w3 w10 w3.heap.size v10 ((stL l s).take (k + 1)) from ⟨by
                  rw [HN.out]
                  have e1 : (S.take cap5 ++ st :: S.drop cap5).length = cap5 + 1 + 0 := by rw [HDN.out, List.length_append, List.length_take, List.length_cons, List.length_nil]; omega
                  rw [e1, HDN.out]
                  have := own_mono hown10 HR.out.bel.size
                  simpa only [iV, List.map_append, List.map_cons, List.map_take, List.map_nil, List.nil_append, List.append_nil, List.append_assoc, List.singleton_append, List.cons_append] using this,
                HR.out.bel.trans ((HB9.out.trans hb10).mono HR.out.bel.size)⟩)
              clear hown10 hb10 HB9 HS9 HVD H9
              go_wp2_with fail
              go_roundw
              case rel => exact ⟨k + 1, by omega, by go_num, HF.out⟩
              case measure => simp [intOf]; omega
            · have HN := Lib.hid (show Srt.set ((stL l s).take (k + 1)) = S.take m ++ st :: S.drop m by
                rw [HT.out, ← HSQ.out]
                exact set_new xs st m (by rw [HSQ.out]; exact hmS) (by rw [HSQ.out]; exact HLOW.out) (by rw [HSQ.out]; exact HU.out))
              have H6 := Lib.hid (World.ownsRow_lit (base := wr.heap.size) (e := 3) (size := 1) wr #[] 0 (Nat.le_refl _) (Nat.zero_le _) rfl)
              have HB6 := Lib.hid ((Below.refl wr.heap.size wr).alloc (Nat.le_refl _) (.cells #[] 3))
              have HS6 := Lib.hid (show wr.heap.size ≤ (wr.alloc (.cells #[] 3)).heap.size by simp)
              have HVT := Lib.hid (show Vw (wr.alloc (.cells #[] 3)) (some ⟨g5, 0, none⟩) ((iV S).take m) from Vw.low (w := wr) (vw_take HO5.out m hmS) ((Below.refl wr.heap.size wr).alloc (Nat.le_refl _) _))
              go_wp2_with (at_builtin; refine wpList_cat rfl _ _ 40 rfl wr.heap.size 3 _ 1 8 Try.underlying40 info_int rfl (by omega) (by omega) _ 0 [] rfl H6.out (some ⟨g5, 0, none⟩) m _ ((iV S).take m) rfl HVT.out (iV_lenT hmS) (iV_oneT _ _) (by omega) HS6.out ?_)
              intro v7 w7 hown7 hb7
              have H7 := Lib.hid hown7
              have HB7 := Lib.hid (HB6.out.trans hb7)
              have HS7 := Lib.hid HB7.out.size
              clear hown7 hb7 H6 HB6 HS6 HVT
              go_wp2_with (at_builtin; refine wpList_push rfl _ _ 40 rfl wr.heap.size 3 _ 1 8 Try.underlying40 info_int rfl (by omega) (by omega) _ _ _ rfl H7.out #[.int .i64 st] rfl (by simp [Value.oneCell']) _ rfl rfl (by omega) HS7.out ?_)
              intro v9 w9 hown9 hb9
              have H9 := Lib.hid hown9
              have HB9 := Lib.hid (HB7.out.trans hb9)
              have HS9 := Lib.hid HB9.out.size
              have HVD := Lib.hid (show Vw w9 (some ⟨g5, m, none⟩) ((iV S).drop m) from Vw.low (w := wr) (vw_drop HO5.out m) HB9.out)
              clear hown9 hb9 H7 HB7 HS7
              go_wp2_with (at_builtin; refine wpList_cat rfl _ _ 40 rfl wr.heap.size 3 _ 1 8 Try.underlying40 info_int rfl (by omega) (by omega) _ _ _ rfl H9.out (some ⟨g5, m, none⟩) (S.length - m) _ ((iV S).drop m) rfl HVD.out (iV_lenD _ _) (iV_oneD _ _) (by omega) HS9.out ?_)
              intro v10 w10 hown10 hb10
              have HF := Lib.hid (show RsAt w3 w10 w3.heap.size v10 ((stL l s).take (k + 1)) from ⟨by
                  rw [HN.out]
                  have e1 : (S.take m ++ st :: S.drop m).length = m + 1 + (S.length - m) := by rw [List.length_append, List.length_take, List.length_cons, List.length_drop]; omega
                  rw [e1]
                  have := own_mono hown10 HR.out.bel.size
                  simpa only [iV, List.map_append, List.map_cons, List.map_take, List.map_drop, List.nil_append, List.append_assoc, List.singleton_append, List.cons_append] using this,
                HR.out.bel.trans ((HB9.out.trans hb10).mono HR.out.bel.size)⟩)
              clear hown10 hb10 HB9 HS9 HVD H9
              go_wp2_with fail
              go_roundw
              case rel => exact ⟨k + 1, by omega, by go_num, HF.out⟩
              case measure => simp [intOf]; omega
    · obtain rfl : k = l.length := by omega
      have hr := HR.out.own
      have hsl := stL_len l s
      rw [List.take_of_length_le (by omega)] at hr
      have HV := Lib.hid hr
      have HW := Lib.hid (HB3.out.trans (HR.out.bel.mono HB3.out.size))
      clear hr hsl
      go_wp2_with fail
      go_ret
      rw [HLQ.out]
      exact ⟨_, rfl, own_mono HV.out HB3.out.size, HW.out⟩
end Go.Proofs.Ytldpignnahokdaa
