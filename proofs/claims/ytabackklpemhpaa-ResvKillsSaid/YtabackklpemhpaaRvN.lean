/-
  Contract of the reference's Lines of layer 13.
-/
import Derived.Test.YtabackklpemhpaaRvD
import Derived.Test.YtabackklpemhpaaRvM
import Derived.Test.YtabackklpemhpaaLkA
namespace Go.Proofs.Ytabackklpemhpaa
open Go.ChangeShapes Go.WideShapes Go.ChangeAt Go.RowKit

namespace Rv
/-- Is a hart's line beyond a number, if there is one? -/
def okA (T : Tb) (lo : Option Int) (h : Nat) : Prop := ∃ l, T h = some l ∧ ∀ b, lo = some b → b < l
open Classical in
noncomputable def best (T : Tb) (lo : Option Int) : Nat → Option Nat
  | 0 => none
  | k + 1 => if okA T lo k ∧ (∀ b, best T lo k = some b → ln T k < ln T b) then some k else best T lo k
theorem best_none {T : Tb} {lo : Option Int} : ∀ {k : Nat}, best T lo k = none → ∀ h, h < k → ¬ okA T lo h
  | 0, _, h, hh => by omega
  | k + 1, e, h, hh => by
    unfold best at e
    split at e
    · cases e
    · rename_i hc
      by_cases e2 : h = k
      · subst e2
        intro ho
        exact hc ⟨ho, fun b hb => by rw [e] at hb; cases hb⟩
      · exact best_none e h (by omega)
theorem best_some {T : Tb} {lo : Option Int} : ∀ {k b : Nat}, best T lo k = some b → b < k ∧ okA T lo b ∧ ∀ h, h < k → okA T lo h → ln T b ≤ ln T h
  | 0, b, e => by cases e
  | k + 1, b, e => by
    unfold best at e
    split at e
    · rename_i hc
      cases e
      refine ⟨by omega, hc.1, fun h hh ho => ?_⟩
      by_cases e2 : h = k
      · subst e2; exact Int.le_refl _
      · cases hb : best T lo k with
        | none => exact absurd ho (best_none hb h (by omega))
        | some b2 =>
          have h1 := hc.2 b2 hb
          have h2 := (best_some hb).2.2 h (by omega) ho
          omega
    · rename_i hc
      obtain ⟨h1, h2, h3⟩ := best_some e
      refine ⟨by omega, h2, fun h hh ho => ?_⟩
      by_cases e2 : h = k
      · subst e2
        rcases Int.lt_or_le (ln T h) (ln T b) with h4 | h4
        · exact absurd ⟨ho, fun b2 hb2 => by rw [e] at hb2; cases hb2; exact h4⟩ hc
        · exact h4
      · exact h3 h (by omega) ho
def lo (T : Tb) (m : Nat) : Option Int := if m = 0 then none else some ((lines T).getD (m - 1) 0)
theorem lines_len (T : Tb) : (lines T).length ≤ 8 := by
  refine Nat.le_trans (Srt.set_len _) (Nat.le_trans (List.length_filterMap_le _ _) ?_)
  simp
theorem lines_get {T : Tb} {j : Nat} (hj : j < (lines T).length) : (lines T).getD j 0 ∈ lines T := by
  rw [List.getD, List.getElem?_eq_getElem hj]
  exact List.getElem_mem hj
theorem lines_lt {T : Tb} {i j : Nat} (hij : i < j) (hj : j < (lines T).length) : (lines T).getD i 0 < (lines T).getD j 0 := by
  have := List.pairwise_iff_getElem.1 (lines_strict T) i j (by omega) hj hij
  rw [List.getD, List.getD, List.getElem?_eq_getElem (by omega), List.getElem?_eq_getElem hj]
  exact this
theorem lines_okA {T : Tb} {m j : Nat} (hj : j < (lines T).length) (hm : m ≤ j) : ∃ h : Nat, h < 8 ∧ okA T (lo T m) h ∧ ln T h = (lines T).getD j 0 := by
  obtain ⟨h, h1, h2⟩ := (lines_mem T _).1 (lines_get hj)
  refine ⟨h, h1, ⟨_, h2, fun b hb => ?_⟩, by unfold ln; rw [h2]; rfl⟩
  unfold lo at hb
  split at hb
  · cases hb
  · cases hb
    exact lines_lt (by omega) hj
theorem best_end {T : Tb} {m : Nat} (h : best T (lo T m) 8 = none) : (lines T).length ≤ m := by
  apply Nat.le_of_not_lt
  intro hm
  obtain ⟨i, h1, h2, -⟩ := lines_okA hm (Nat.le_refl m)
  exact best_none h i h1 h2
theorem best_next {T : Tb} {m b : Nat} (h : best T (lo T m) 8 = some b) (hm : m ≤ (lines T).length) : b < 8 ∧ m < (lines T).length ∧ ln T b = (lines T).getD m 0 := by
  obtain ⟨h1, ⟨l, h2, h3⟩, h4⟩ := best_some h
  have hl : l ∈ lines T := (lines_mem T l).2 ⟨b, h1, h2⟩
  obtain ⟨j, hj, e⟩ := List.mem_iff_getElem.1 hl
  have ej : (lines T).getD j 0 = l := by rw [List.getD, List.getElem?_eq_getElem hj]; exact e
  have hjm : m ≤ j := by
    apply Nat.le_of_not_lt
    intro hc
    have h5 := h3 ((lines T).getD (m - 1) 0) (by unfold lo; rw [if_neg (by omega)])
    by_cases e2 : j = m - 1
    · subst e2; omega
    · have := lines_lt (T := T) (show j < m - 1 by omega) (by omega)
      omega
  have hln : ln T b = l := by unfold ln; rw [h2]; rfl
  obtain ⟨i, g1, g2, g3⟩ := lines_okA (show m < (lines T).length by omega) (Nat.le_refl m)
  have h6 := h4 i g1 g2
  refine ⟨h1, by omega, ?_⟩
  by_cases e2 : j = m
  · subst e2; omega
  · have := lines_lt (show m < j by omega) hj
    omega
theorem take_lines {T : Tb} {m : Nat} (hm : m < (lines T).length) : (lines T).take (m + 1) = (lines T).take m ++ [(lines T).getD m 0] := take_next hm
theorem lo_last {T : Tb} {m : Nat} (hm : 0 < m) : lo T m = some ((lines T).getD (m - 1) 0) := by unfold lo; rw [if_neg (by omega)]
theorem best_no {T : Tb} {lo : Option Int} {k : Nat} (h : ¬ (okA T lo k ∧ (∀ b, best T lo k = some b → ln T k < ln T b))) : best T lo (k + 1) = best T lo k := by rw [best, if_neg h]
theorem best_yes {T : Tb} {lo : Option Int} {k : Nat} (h : okA T lo k ∧ (∀ b, best T lo k = some b → ln T k < ln T b)) : best T lo (k + 1) = some k := by rw [best, if_pos h]
end Rv
def bI : Option Nat → Int
  | none => -1
  | some b => b
theorem own_take {w : World} {base : Nat} {v : Value} {xs : List Int} {m : Nat} (h : w.ownsRow base 23 1 v m (U.uV (xs.take m))) (hm : 0 < m) (hl : m ≤ xs.length) : ∃ g cap, v = .slice (some ⟨g, 0, none⟩) m cap ∧ w.cell? ⟨g, m - 1, none⟩ = some (.int .u64 (xs.getD (m - 1) 0)) := by
  obtain ⟨g, cap, rfl, -, -, -⟩ := own_pos h hm
  refine ⟨g, cap, rfl, ?_⟩
  rw [h.cellAt (m - 1) (by omega), U.uV_at _ _ (by simp; omega)]
  simp only [List.getD, List.getElem?_take]
  rw [if_pos (by omega)]
theorem own_ltU {w : World} {base g : Nat} {m cap : Nat} {xs : List Value} (h : w.ownsRow base 23 1 (.slice (some ⟨g, 0, none⟩) m cap) m xs) : g < w.heap.size := (h.lt g rfl).2
set_option maxRecDepth 100000 in
set_option maxHeartbeats 16000000 in
theorem xlines_c (T : Rv.Tb) (w : World) :
    Calls Try.prog 26 #[.agg (rT T)] w fun e w' => ∃ v, e = .returned v ∧ w'.ownsRow w.heap.size 23 1 v (Rv.lines T).length (U.uV (Rv.lines T)) ∧ Below w.heap.size w w' := by
  have HX := Lib.hid (CsAt.new w XT (rT T))
  have HB := Lib.hid ((Below.refl w.heap.size w).alloc (Nat.le_refl _) (.cells (rT T) XT))
  have hl8 := Rv.lines_len T
  go_enter Try.func26, Try.ntmps26
  go_upto_region 1 with fail
  generalize w.alloc (.cells (rT T) XT) = w1 at *
  go_wp2_with fail
  go_loopw [4, 3] (fun i v wr => ∃ m : Nat, m ≤ (Rv.lines T).length ∧ i = .int .i64 m ∧ wr.ownsRow (w.heap.size + 1) 23 1 v m (U.uV ((Rv.lines T).take m)) ∧ CsAt wr w.heap.size XT (rT T) ∧ Below w.heap.size w wr) (fun i _ _ => 8 - (intOf i).toNat)
  case atStart => exact ⟨0, Nat.zero_le _, rfl, World.ownsRow_nil _ _ _ _, HX.out, HB.out⟩
  case round =>
    obtain ⟨m, hm, rfl, hown, hx, hb⟩ := hrel
    have HO := Lib.hid hown
    have HXR := Lib.hid hx
    have HBR := Lib.hid hb
    clear hown hx hb HX HB
    by_cases hlt : m < 8
    · have g : (m : Int) < 8 := by omega
      obtain ⟨p, cap, hv, -, -, -⟩ := own_form HO.out
      subst hv
      have HLAST := Lib.hid (fun (h0 : 0 < m) => own_take HO.out h0 hm)
      go_wp2_with fail
      go_loopw [6, 5] (fun j c ws => ∃ k : Nat, k ≤ 8 ∧ j = .int .i64 k ∧ c = .int .i64 (bI (Rv.best T (Rv.lo T m) k)) ∧ Below wr.heap.size wr ws) (fun j _ _ => 8 - (intOf j).toNat)
      case atStart => exact ⟨0, by omega, rfl, rfl, Below.refl _ _⟩
      case round =>
        obtain ⟨k, hk, rfl, rfl, hbk⟩ := hrel
        have HBK := Lib.hid hbk
        have HXK := Lib.hid (HXR.out.low hbk)
        clear hbk
        by_cases hlk : k < 8
        · have gk : (k : Int) < 8 := by omega
          have c1 := (HXK.out.cell k).trans (rC_b _ _ hlk)
          have c2 := (HXK.out.cell (8 + k)).trans (rC_l _ _ hlk)
          have HNO := Lib.hid (Rv.best_no (T := T) (lo := Rv.lo T m) (k := k))
          have HYES := Lib.hid (Rv.best_yes (T := T) (lo := Rv.lo T m) (k := k))
          have HLT := Lib.hid (fun b (h : Rv.best T (Rv.lo T m) k = some b) => (Rv.best_some h).1)
          cases ht : T k with
          | none =>
            have HE := Lib.hid (HNO.out fun h => by obtain ⟨⟨l, h1, -⟩, -⟩ := h; rw [ht] at h1; cases h1)
            have d1 : Rv.is T k = false := by unfold Rv.is; rw [ht]; rfl
            rw [d1] at c1
            clear HNO HYES HLT c2 d1
            generalize hbb : bI (Rv.best T (Rv.lo T m) k) = bb at *
            have HBB := Lib.hid hbb
            clear hbb
            go_wp2_with fail
            go_quiet (fail)
            have HB2 := Lib.hid (below_dnS HBK.out nq)
            go_wp2_with fail
            go_roundw
            case rel => exact ⟨k + 1, by omega, by go_num, by rw [HE.out, HBB.out], HB2.out⟩
            case measure => simp [intOf]; omega
          | some l =>
            have d1 : Rv.is T k = true := by unfold Rv.is; rw [ht]; rfl
            have d2 : Rv.ln T k = l := by unfold Rv.ln; rw [ht]; rfl
            rw [d1] at c1
            rw [d2] at c2
            have HD2 := Lib.hid d2
            have HT := Lib.hid ht
            clear d1 d2 ht
            by_cases hm0 : m = 0
            · subst hm0
              have HOK := Lib.hid (show Rv.okA T (Rv.lo T 0) k from ⟨l, HT.out, fun b hb => by cases hb⟩)
              cases hbk : Rv.best T (Rv.lo T 0) k with
              | none =>
                have HE := Lib.hid (HYES.out ⟨HOK.out, fun b hb => by rw [hbk] at hb; cases hb⟩)
                have gb : bI none = -1 := rfl
                rw [gb]
                clear HNO HYES HLT hbk
                go_wp2_with fail
                go_quiet (fail)
                have HB2 := Lib.hid (below_dnS HBK.out nq)
                go_wp2_with fail
                go_roundw
                case rel => exact ⟨k + 1, by omega, by go_num, by rw [HE.out]; rfl, HB2.out⟩
                case measure => simp [intOf]; omega
              | some b =>
                have hb8 : b < 8 := by have := HLT.out b hbk; omega
                have c3 := (HXK.out.cell (8 + b)).trans (rC_l _ _ hb8)
                have gb : bI (some b) = (b : Int) := rfl
                rw [gb]
                have g1 : decide ((b : Int) < 0) = false := by simp
                have g2 : (b : Int) < 8 := by omega
                by_cases hlb : l < Rv.ln T b
                · have g3 : decide (l < Rv.ln T b) = true := by simpa using hlb
                  have HE := Lib.hid (HYES.out ⟨HOK.out, fun b2 hb2 => by rw [hbk] at hb2; cases hb2; rw [HD2.out]; exact hlb⟩)
                  clear HNO HYES HLT hbk hlb
                  generalize Rv.ln T b = lb at *
                  go_wp2_with fail
                  go_quiet (fail)
                  have HB2 := Lib.hid (below_dnS HBK.out nq)
                  go_wp2_with fail
                  go_roundw
                  case rel => exact ⟨k + 1, by omega, by go_num, by rw [HE.out]; rfl, HB2.out⟩
                  case measure => simp [intOf]; omega
                · have g3 : decide (l < Rv.ln T b) = false := by simpa using hlb
                  have HE := Lib.hid ((HNO.out fun h => hlb (by have := h.2 b hbk; rw [HD2.out] at this; exact this)).trans hbk)
                  clear HNO HYES HLT hbk hlb
                  generalize Rv.ln T b = lb at *
                  go_wp2_with fail
                  go_quiet (fail)
                  have HB2 := Lib.hid (below_dnS HBK.out nq)
                  go_wp2_with fail
                  go_roundw
                  case rel => exact ⟨k + 1, by omega, by go_num, by rw [HE.out]; rfl, HB2.out⟩
                  case measure => simp [intOf]; omega
            · have h0 : 0 < m := by omega
              obtain ⟨g0, cap0, hv, cl⟩ := HLAST.out h0
              obtain ⟨rfl, rfl⟩ : p = some ⟨g0, 0, none⟩ ∧ cap = cap0 := by cases hv; exact ⟨rfl, rfl⟩
              have HG0 := Lib.hid (own_ltU HO.out)
              have cl2 := (HBK.out.cell (p := ⟨g0, m - 1, none⟩) HG0.out).trans cl
              have gm : ((m : Int) == 0) = false := beq_eq_false_iff_ne.2 (by omega)
              obtain ⟨m1, rfl⟩ : ∃ m1, m = m1 + 1 := ⟨m - 1, by omega⟩
              rw [show m1 + 1 - 1 = m1 by omega] at cl2
              have gw : IntKind.i64.wrap (((m1 + 1 : Nat) : Int) - 1) = m1 := by rw [IntKind.wrap_i64]; omega
              have gm2 : ((m1 : Int) + 1 == 0) = false := beq_eq_false_iff_ne.2 (by omega)
              have gw2 : IntKind.i64.wrap ((m1 : Int) + 1 - 1) = m1 := by rw [IntKind.wrap_i64]; omega
              have gl2 : (m1 : Int) < (m1 : Int) + 1 := by omega
              have gl3 : (m1 : Int) < ((m1 + 1 : Nat) : Int) := by omega
              have HLO := Lib.hid (Rv.lo_last (T := T) (m := m1 + 1) (by omega))
              rw [show m1 + 1 - 1 = m1 by omega] at HLO
              clear hv cl HLAST
              generalize (Rv.lines T).getD m1 0 = la at *
              by_cases hla : la < l
              · have gla : decide (l > la) = true := by simpa using hla
                have HOK := Lib.hid (show Rv.okA T (Rv.lo T (m1 + 1)) k from ⟨l, HT.out, fun b hb => by rw [HLO.out] at hb; cases hb; exact hla⟩)
                clear hla
                cases hbk : Rv.best T (Rv.lo T (m1 + 1)) k with
                | none =>
                  have HE := Lib.hid (HYES.out ⟨HOK.out, fun b hb => by rw [hbk] at hb; cases hb⟩)
                  have gb : bI none = -1 := rfl
                  rw [gb]
                  clear HNO HYES HLT hbk
                  go_wp2_with fail
                  go_quiet (fail)
                  have HB2 := Lib.hid (below_dnS HBK.out nq)
                  go_wp2_with fail
                  go_roundw
                  case rel => exact ⟨k + 1, by omega, by go_num, by rw [HE.out]; rfl, HB2.out⟩
                  case measure => simp [intOf]; omega
                | some b =>
                  have hb8 : b < 8 := by have := HLT.out b hbk; omega
                  have c3 := (HXK.out.cell (8 + b)).trans (rC_l _ _ hb8)
                  have gb : bI (some b) = (b : Int) := rfl
                  rw [gb]
                  have g1 : decide ((b : Int) < 0) = false := by simp
                  have g2 : (b : Int) < 8 := by omega
                  by_cases hlb : l < Rv.ln T b
                  · have g3 : decide (l < Rv.ln T b) = true := by simpa using hlb
                    have HE := Lib.hid (HYES.out ⟨HOK.out, fun b2 hb2 => by rw [hbk] at hb2; cases hb2; rw [HD2.out]; exact hlb⟩)
                    clear HNO HYES HLT hbk hlb
                    generalize Rv.ln T b = lb at *
                    go_wp2_with fail
                    go_quiet (fail)
                    have HB2 := Lib.hid (below_dnS HBK.out nq)
                    go_wp2_with fail
                    go_roundw
                    case rel => exact ⟨k + 1, by omega, by go_num, by rw [HE.out]; rfl, HB2.out⟩
                    case measure => simp [intOf]; omega
                  · have g3 : decide (l < Rv.ln T b) = false := by simpa using hlb
                    have HE := Lib.hid ((HNO.out fun h => hlb (by have := h.2 b hbk; rw [HD2.out] at this; exact this)).trans hbk)
                    clear HNO HYES HLT hbk hlb
                    generalize Rv.ln T b = lb at *
                    go_wp2_with fail
                    go_quiet (fail)
                    have HB2 := Lib.hid (below_dnS HBK.out nq)
                    go_wp2_with fail
                    go_roundw
                    case rel => exact ⟨k + 1, by omega, by go_num, by rw [HE.out]; rfl, HB2.out⟩
                    case measure => simp [intOf]; omega
              · have gla : decide (l > la) = false := by simpa using hla
                have HE := Lib.hid (HNO.out fun h => by
                  obtain ⟨⟨l2, h1, h2⟩, -⟩ := h
                  rw [HT.out] at h1
                  cases h1
                  exact hla (h2 _ HLO.out))
                clear HNO HYES HLT hla
                generalize hbb : bI (Rv.best T (Rv.lo T (m1 + 1)) k) = bb at *
                have HBB := Lib.hid hbb
                clear hbb
                go_wp2_with fail
                go_quiet (fail)
                have HB2 := Lib.hid (below_dnS HBK.out nq)
                go_wp2_with fail
                go_roundw
                case rel => exact ⟨k + 1, by omega, by go_num, by rw [HE.out, HBB.out], HB2.out⟩
                case measure => simp [intOf]; omega
        · obtain rfl : k = 8 := by omega
          have HOK8 := Lib.hid ((own_low HO.out HBK.out))
          have HB8 := Lib.hid (HBR.out.trans (HBK.out.mono (Nat.le_of_lt HXR.out.lt)))
          cases hbe : Rv.best T (Rv.lo T m) 8 with
          | none =>
            have hmm : m = (Rv.lines T).length := by have := Rv.best_end hbe; omega
            have HE := Lib.hid (show (Rv.lines T).take m = Rv.lines T by rw [hmm]; exact List.take_length)
            rw [HE.out, hmm] at HOK8
            have gb : bI none = -1 := rfl
            rw [gb]
            rw [hmm]
            go_wp2_with fail
            go_ret
            exact ⟨_, rfl, own_mono HOK8.out (by omega), HB8.out⟩
          | some b =>
            obtain ⟨h1, h2, h3⟩ := Rv.best_next hbe hm
            have c3 := (HXK.out.cell (8 + b)).trans (rC_l _ _ h1)
            rw [h3] at c3
            have gb : bI (some b) = (b : Int) := rfl
            rw [gb]
            have g1 : decide ((b : Int) < 0) = false := by simp
            have g2 : (b : Int) < 8 := by omega
            have HE := Lib.hid (Rv.take_lines h2)
            clear HLAST
            generalize (Rv.lines T).getD m 0 = x at *
            go_wp2_with (at_builtin; refine wpList_push rfl _ _ 30 rfl (w.heap.size + 1) 23 _ 1 8 Try.underlying30 info_u64U rfl (by omega) (by omega) _ m _ rfl HOK8.out #[.int .u64 x] rfl (one_u64U _) _ rfl rfl (by omega) HXK.out.lt ?_)
            intro v' w6 hown6 hb6
            have HB6 := Lib.hid (HB8.out.trans (hb6.mono (by omega)))
            have HX6 := Lib.hid (HXK.out.on hb6 (Nat.lt_succ_self _))
            have HO6 := Lib.hid (show w6.ownsRow (w.heap.size + 1) 23 1 v' (m + 1) (U.uV ((Rv.lines T).take (m + 1))) from by
              rw [HE.out]
              simp only [U.uV, List.map_append, List.map_cons, List.map_nil]
              simpa using hown6)
            clear hown6 hb6 c3
            go_wp2_with fail
            go_roundw
            case rel => exact ⟨m + 1, h2, by go_num, HO6.out, HX6.out, HB6.out⟩
            case measure => simp [intOf]; omega
    · obtain rfl : m = 8 := by omega
      have hll : (Rv.lines T).length = 8 := by omega
      have HE := Lib.hid (show (Rv.lines T).take 8 = Rv.lines T by rw [← hll]; exact List.take_length)
      rw [HE.out] at HO
      go_wp2_with fail
      go_ret
      exact ⟨_, rfl, by rw [hll]; exact own_mono HO.out (Nat.le_succ _), HBR.out⟩
end Go.Proofs.Ytabackklpemhpaa
