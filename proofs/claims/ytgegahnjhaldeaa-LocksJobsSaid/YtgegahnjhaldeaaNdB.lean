/-
  Contract of the reference of layer 12: Need.
-/
import Derived.Test.YtgegahnjhaldeaaNdA
import Derived.Test.YtgegahnjhaldeaaLkM
namespace Go.Proofs.Ytgegahnjhaldeaa
open Go.ChangeShapes Go.WideShapes Go.ChangeAt Go.RowKit

/-- How long a slice is. -/
def lenV : Value → Nat
  | .slice _ n _ => n
  | _ => 0
/-- What stands while it is looked for: v owns the first m. -/
structure NdAt (w W : World) (S : List Int) (v : Value) (m : Nat) : Prop where
  own : W.ownsRow w.heap.size 3 1 v m (iV (S.take m))
  bel : Below w.heap.size w W
theorem NdAt.on {w W W' : World} {S : List Int} {v : Value} {m : Nat} (h : NdAt w W S v m) (hb : Below W.heap.size W W') : NdAt w W' S v m := ⟨own_low h.own hb, h.bel.trans (hb.mono h.bel.size)⟩
set_option maxRecDepth 100000 in
set_option maxHeartbeats 8000000 in
theorem rneed_c (p : Option Addr) (cap : Nat) (xs : List Int) (w : World) (hv : Vw w p (iV xs)) (hl : xs.length ≤ 1000) :
    Calls Try.prog 28 #[.slice p xs.length cap] w fun e w' => ∃ v, e = .returned v ∧ w'.ownsRow w.heap.size 3 1 v (Srt.set xs).length (iV (Srt.set xs)) ∧ Below w.heap.size w w' := by
  have HV := Lib.hid hv
  have HSL := Lib.hid (Srt.set_len xs)
  obtain ⟨S, hS⟩ : ∃ S, Srt.set xs = S := ⟨_, rfl⟩
  have HSE := Lib.hid hS
  rw [hS] at HSL ⊢
  clear hS
  have H0 := Lib.hid (show NdAt w w S (.slice none 0 0) 0 from ⟨World.ownsRow_nil _ _ _ _, Below.refl _ _⟩)
  clear hv
  go_enter Try.func28, Try.ntmps28
  go_wp2_with fail
  go_loopw [3] (fun v wr => ∃ m : Nat, m ≤ S.length ∧ NdAt w wr S v m) (fun v _ => xs.length - lenV v)
  case atStart => exact ⟨0, by omega, H0.out⟩
  case round =>
    obtain ⟨m, hm, hN⟩ := hrel
    clear H0
    obtain ⟨po, co, rfl, -⟩ := own_form2 hN.own
    have HN := Lib.hid hN
    have hmx : m ≤ xs.length := Nat.le_trans hm HSL.out
    clear hN
    by_cases hlt : m < xs.length
    · have gm : decide (m < xs.length) = true := by simpa using hlt
      have gm2 : (m : Int) < xs.length := by omega
      go_wp2_with fail
      obtain ⟨wo, rfl⟩ : ∃ wo : World, wo = wr := ⟨_, rfl⟩
      go_loopw [4, 5] (fun b iv wr => ∃ (k : Nat) (bi : Int), k ≤ xs.length ∧ iv = .int .i64 k ∧ b = .int .i64 bi ∧ Nd.Best xs S m k bi ∧ NdAt w wr S (.slice po m co) m) (fun _ iv _ => xs.length - (intOf iv).toNat)
      case atStart => exact ⟨0, -1, by omega, rfl, rfl, Nd.Best.zero _ _ _, HN.out⟩
      case round =>
        obtain ⟨k, bi, hk, rfl, rfl, hB, hN⟩ := hrel
        clear HN
        have HN := Lib.hid hN
        have HB := Lib.hid hB
        clear hN hB
        by_cases hkl : k < xs.length
        · have gk : decide (k < xs.length) = true := by simpa using hkl
          have gk2 : (k : Int) < xs.length := by omega
          obtain ⟨b, off, rfl, hbl, hcl⟩ := HV.out.cells (show 0 < xs.length by omega)
          have HCL := Lib.hid (show ∀ j, j < xs.length → wr.cell? ⟨b, off + j, none⟩ = some (.int .i64 (xs.getD j 0)) from fun j hj => (HN.out.bel.cell (p := ⟨b, off + j, none⟩) hbl).trans (hcl j hj))
          clear hcl
          have ck := HCL.out k hkl
          generalize hxk : xs.getD k 0 = x at *
          by_cases hm0 : m = 0
          · have hc : Nd.cand S m (xs.getD k 0) := .inl hm0
            have g0 : ((m : Int) == 0) = true := by rw [hm0]; rfl
            clear hm0
            by_cases hneg : bi < 0
            · have gn : decide (bi < 0) = true := by simpa using hneg
              have HX := Lib.hid (show Nd.Best xs S m (k + 1) (k : Int) by
                have : bi = -1 := by rcases HB.out with ⟨h, -⟩ | ⟨j, h, -⟩ <;> omega
                subst this
                exact HB.out.first hc)
              clear hc hxk
              go_wp2_with fail
              go_quiet (fail)
              have HN2 := Lib.hid (HN.out.on (below_dnS (Below.refl wr.heap.size wr) nq))
              go_wp2_with fail
              go_roundw
              case rel => exact ⟨k + 1, (k : Int), by omega, by go_num, rfl, HX.out, HN2.out⟩
              case measure => simp [intOf]; omega
            · have gn : decide (bi < 0) = false := by simpa using hneg
              obtain ⟨j, rfl⟩ := Int.eq_ofNat_of_zero_le (show 0 ≤ bi by omega)
              have hjk : j < k := by rcases HB.out with ⟨h, -⟩ | ⟨j', h, h2, -⟩ <;> omega
              have gj : (j : Int) < xs.length := by omega
              have cj := HCL.out j (by omega)
              by_cases hless : x < xs.getD j 0
              · have HX := Lib.hid (HB.out.less hc (by rw [hxk]; exact hless))
                generalize xs.getD j 0 = z at *
                have gz : decide (x < z) = true := by simpa using hless
                clear hc hxk
                go_wp2_with fail
                go_quiet (fail)
                have HN2 := Lib.hid (HN.out.on (below_dnS (Below.refl wr.heap.size wr) nq))
                go_wp2_with fail
                go_roundw
                case rel => exact ⟨k + 1, (k : Int), by omega, by go_num, rfl, HX.out, HN2.out⟩
                case measure => simp [intOf]; omega
              · have HX := Lib.hid (HB.out.more (by rw [hxk]; exact hless))
                generalize xs.getD j 0 = z at *
                have gz : decide (x < z) = false := by simpa using hless
                clear hc hxk
                go_wp2_with fail
                go_quiet (fail)
                have HN2 := Lib.hid (HN.out.on (below_dnS (Below.refl wr.heap.size wr) nq))
                go_wp2_with fail
                go_roundw
                case rel => exact ⟨k + 1, (j : Int), by omega, by go_num, rfl, HX.out, HN2.out⟩
                case measure => simp [intOf]; omega
          · have g0 : ((m : Int) == 0) = false := beq_eq_false_iff_ne.2 (by omega)
            have g1 : (0 : Int) ≤ (m : Int) - 1 := by omega
            have g3 : ((m : Int) - 1).toNat = m - 1 := by omega
            have g4 : (m : Int) - 1 < m := by omega
            have g5 : IntKind.i64.wrap ((m : Int) - 1) = (m : Int) - 1 := by rw [IntKind.wrap_i64]; omega
            obtain ⟨g, cg, hpe, hg1, hg2, -⟩ := own_pos HN.out.own (by omega)
            obtain ⟨rfl, rfl⟩ : po = some ⟨g, 0, none⟩ ∧ co = cg := by cases hpe; exact ⟨rfl, rfl⟩
            have cl : wr.cell? ⟨g, m - 1, none⟩ = some (.int .i64 (S.getD (m - 1) 0)) := by
              rw [HN.out.own.cellAt (m - 1) (by omega), ← Nd.take_last (S := S) (m := m) (by omega)]
              exact iV_at _ _ (by rw [List.length_take]; omega)
            generalize hy : S.getD (m - 1) 0 = y at *
            clear hpe
            by_cases hyx : y < x
            · have hc : Nd.cand S m (xs.getD k 0) := .inr (by rw [hy, hxk]; exact hyx)
              have g6 : decide (y < x) = true := by simpa using hyx
              by_cases hneg : bi < 0
              · have gn : decide (bi < 0) = true := by simpa using hneg
                have HX := Lib.hid (show Nd.Best xs S m (k + 1) (k : Int) by
                  have : bi = -1 := by rcases HB.out with ⟨h, -⟩ | ⟨j, h, -⟩ <;> omega
                  subst this
                  exact HB.out.first hc)
                clear hc hxk hy
                go_wp2_with fail
                go_quiet (fail)
                have HN2 := Lib.hid (HN.out.on (below_dnS (Below.refl wr.heap.size wr) nq))
                go_wp2_with fail
                go_roundw
                case rel => exact ⟨k + 1, (k : Int), by omega, by go_num, rfl, HX.out, HN2.out⟩
                case measure => simp [intOf]; omega
              · have gn : decide (bi < 0) = false := by simpa using hneg
                obtain ⟨j, rfl⟩ := Int.eq_ofNat_of_zero_le (show 0 ≤ bi by omega)
                have hjk : j < k := by rcases HB.out with ⟨h, -⟩ | ⟨j', h, h2, -⟩ <;> omega
                have gj : (j : Int) < xs.length := by omega
                have cj := HCL.out j (by omega)
                by_cases hless : x < xs.getD j 0
                · have HX := Lib.hid (HB.out.less hc (by rw [hxk]; exact hless))
                  generalize xs.getD j 0 = z at *
                  have gz : decide (x < z) = true := by simpa using hless
                  clear hc hxk hy
                  go_wp2_with fail
                  go_quiet (fail)
                  have HN2 := Lib.hid (HN.out.on (below_dnS (Below.refl wr.heap.size wr) nq))
                  go_wp2_with fail
                  go_roundw
                  case rel => exact ⟨k + 1, (k : Int), by omega, by go_num, rfl, HX.out, HN2.out⟩
                  case measure => simp [intOf]; omega
                · have HX := Lib.hid (HB.out.more (by rw [hxk]; exact hless))
                  generalize xs.getD j 0 = z at *
                  have gz : decide (x < z) = false := by simpa using hless
                  clear hc hxk hy
                  go_wp2_with fail
                  go_quiet (fail)
                  have HN2 := Lib.hid (HN.out.on (below_dnS (Below.refl wr.heap.size wr) nq))
                  go_wp2_with fail
                  go_roundw
                  case rel => exact ⟨k + 1, (j : Int), by omega, by go_num, rfl, HX.out, HN2.out⟩
                  case measure => simp [intOf]; omega
            · have hnc : ¬ Nd.cand S m (xs.getD k 0) := by
                rintro (h | h)
                · exact hm0 h
                · rw [hy, hxk] at h; exact hyx h
              have g6 : decide (y < x) = false := by simpa using hyx
              have HX := Lib.hid (HB.out.no hnc)
              clear hnc hxk hy
              go_wp2_with fail
              go_quiet (fail)
              have HN2 := Lib.hid (HN.out.on (below_dnS (Below.refl wr.heap.size wr) nq))
              go_wp2_with fail
              go_roundw
              case rel => exact ⟨k + 1, bi, by omega, by go_num, rfl, HX.out, HN2.out⟩
              case measure => simp [intOf]; omega
        · have gk : decide (k < xs.length) = false := by simpa using hkl
          have gk2 : ¬ (k : Int) < xs.length := by omega
          obtain rfl : k = xs.length := by omega
          have hbb := HB.out
          rw [← HSE.out] at hbb
          by_cases hneg : bi < 0
          · have gn : decide (bi < 0) = true := by simpa using hneg
            have HE := Lib.hid (show S.take m = S by
              have : bi = -1 := by rcases hbb with ⟨h, -⟩ | ⟨j, h, -⟩ <;> omega
              rw [this] at hbb
              rw [← HSE.out]
              exact hbb.none)
            have HO := Lib.hid (show wr.ownsRow w.heap.size 3 1 (.slice po m co) S.length (iV S) by
              have h := HN.out.own
              rw [HE.out] at h
              have h2 : m = S.length := by have := congrArg List.length HE.out; rw [List.length_take] at this; omega
              rw [h2] at h ⊢
              exact h)
            clear hbb
            go_wp2_with fail
            go_ret
            exact ⟨_, rfl, HO.out, HN.out.bel⟩
          · have gn : decide (bi < 0) = false := by simpa using hneg
            obtain ⟨j, rfl⟩ := Int.eq_ofNat_of_zero_le (show 0 ≤ bi by omega)
            obtain ⟨hj, hmS, hje⟩ := Nd.Best.some hbb (by rw [HSE.out]; exact hm)
            rw [HSE.out] at hmS hje
            obtain ⟨b, off, rfl, hbl, hcl⟩ := HV.out.cells (show 0 < xs.length by omega)
            have cj := (HN.out.bel.cell (p := ⟨b, off + j, none⟩) hbl).trans (hcl j hj)
            rw [hje] at cj
            have gj : (j : Int) < xs.length := by omega
            have HT := Lib.hid (Nd.take_next hmS)
            have hsz := HN.out.bel.size
            clear hcl hbb hje
            generalize S.getD m 0 = x at *
            go_wp2_with (at_builtin; refine wpList_push rfl _ _ 36 rfl w.heap.size 3 _ 1 8 Try.underlying36 info_intL rfl (by omega) (by omega) _ m _ rfl HN.out.own #[.int .i64 x] rfl (one_int x) _ rfl rfl (by omega) hsz ?_)
            intro v' w' hown' hb'
            obtain ⟨p', c', rfl, -⟩ := own_form2 hown'
            have HN2 := Lib.hid (show NdAt w w' S (.slice p' (m + 1) c') (m + 1) from ⟨by rw [HT.out]; simpa using hown', HN.out.bel.trans hb'⟩)
            clear hown' hb' HN hsz
            go_wp2_with fail
            go_roundw
            case rel => exact ⟨m + 1, by omega, HN2.out⟩
            case measure => simp [lenV]; omega
    · have gm : decide (m < xs.length) = false := by simpa using hlt
      have gm2 : ¬ (m : Int) < xs.length := by omega
      have HO := Lib.hid (show wr.ownsRow w.heap.size 3 1 (.slice po m co) S.length (iV S) by
        have h := HN.out.own
        have h2 : m = S.length := by have := HSL.out; omega
        rw [List.take_of_length_le (by omega), h2] at h
        rw [h2]
        exact h)
      go_wp2_with fail
      go_ret
      exact ⟨_, rfl, HO.out, HN.out.bel⟩
end Go.Proofs.Ytgegahnjhaldeaa
