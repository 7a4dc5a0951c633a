/-
  Contracts of the reference of layer 13: a table by its value; Set, Clear, Kill, Who.
-/
import Derived.Test.YtabackklpemhpaaRvC
namespace Go.Proofs.Ytabackklpemhpaa
open Go.ChangeShapes Go.WideShapes Go.ChangeAt Go.RowKit

/-- The cells of the reference's table. -/
def rC (I : Nat → Bool) (L : Nat → Int) : Array Value := #[.bool (I 0), .bool (I 1), .bool (I 2), .bool (I 3), .bool (I 4), .bool (I 5), .bool (I 6), .bool (I 7),
  .int .u64 (L 0), .int .u64 (L 1), .int .u64 (L 2), .int .u64 (L 3), .int .u64 (L 4), .int .u64 (L 5), .int .u64 (L 6), .int .u64 (L 7)]
abbrev rT (T : Rv.Tb) : Array Value := rC (Rv.is T) (Rv.ln T)
theorem eight {k : Nat} (h : k < 8) : k = 0 ∨ k = 1 ∨ k = 2 ∨ k = 3 ∨ k = 4 ∨ k = 5 ∨ k = 6 ∨ k = 7 := by omega
theorem rC_b (I : Nat → Bool) (L : Nat → Int) {k : Nat} (h : k < 8) : (rC I L)[k]? = some (.bool (I k)) := by
  rcases eight h with rfl | rfl | rfl | rfl | rfl | rfl | rfl | rfl <;> rfl
theorem rC_l (I : Nat → Bool) (L : Nat → Int) {k : Nat} (h : k < 8) : (rC I L)[8 + k]? = some (.int .u64 (L k)) := by
  rcases eight h with rfl | rfl | rfl | rfl | rfl | rfl | rfl | rfl <;> rfl
theorem rC_setB (I : Nat → Bool) (L : Nat → Int) {k : Nat} (h : k < 8) (v : Bool) : (rC I L).setIfInBounds k (.bool v) = rC (fun i => if i = k then v else I i) L := by
  rcases eight h with rfl | rfl | rfl | rfl | rfl | rfl | rfl | rfl <;> rfl
theorem rC_setL (I : Nat → Bool) (L : Nat → Int) {k : Nat} (h : k < 8) (v : Int) : (rC I L).setIfInBounds (8 + k) (.int .u64 v) = rC I (fun i => if i = k then v else L i) := by
  rcases eight h with rfl | rfl | rfl | rfl | rfl | rfl | rfl | rfl <;> rfl
theorem rC_one (I : Nat → Bool) (L : Nat → Int) : (rC I L).all (·.oneCell') = true := by simp [rC, Value.oneCell']
theorem rT_upd (T : Rv.Tb) (k : Nat) (v : Option Int) : rC (fun i => if i = k then v.isSome else Rv.is T i) (fun i => if i = k then v.getD 0 else Rv.ln T i) = rT (Rv.upd T k v) := by
  have e1 : (fun i => if i = k then v.isSome else Rv.is T i) = Rv.is (Rv.upd T k v) := by funext i; unfold Rv.is Rv.upd; split <;> rfl
  have e2 : (fun i => if i = k then v.getD 0 else Rv.ln T i) = Rv.ln (Rv.upd T k v) := by funext i; unfold Rv.ln Rv.upd; split <;> rfl
  rw [e1, e2]
abbrev XT : TypeId := 41
theorem CsAt.setB {w : World} {b : Nat} {t : TypeId} {I : Nat → Bool} {L : Nat → Int} (h : CsAt w b t (rC I L)) {k : Nat} (hk : k < 8) (v : Bool) : CsAt (w.setCell ⟨b, k, none⟩ (.bool v)) b t (rC (fun i => if i = k then v else I i) L) := by
  unfold CsAt
  rw [heap_setCell_same w b k _ t _ h, rC_setB I L hk]
theorem CsAt.setL {w : World} {b : Nat} {t : TypeId} {I : Nat → Bool} {L : Nat → Int} (h : CsAt w b t (rC I L)) {k : Nat} (hk : k < 8) (v : Int) : CsAt (w.setCell ⟨b, 8 + k, none⟩ (.int .u64 v)) b t (rC I (fun i => if i = k then v else L i)) := by
  unfold CsAt
  rw [heap_setCell_same w b (8 + k) _ t _ h, rC_setL I L hk]
theorem info_T : (Try.prog.info? XT).map (·.size) = some 16 := by kernel_rfl
theorem iT (I : Nat → Bool) (L : Nat → Int) : (Try.prog.info? XT).map (·.size) = some (rC I L).size := info_T
set_option maxRecDepth 100000 in
theorem results_rset {F : Func} {x y : Tmp} {t : TypeId} (hF : F.results = #[.cell x XT, .tmp y]) (tmps : Array Value) (w : World) (b : Nat) (I : Nat → Bool) (L : Nat → Int) (r : Value) (h2 : tmps.getD x undef = .pointer (some ⟨b, 0, none⟩)) (h3 : tmps.getD y undef = r) (hb : CsAt w b t (rC I L)) :
    (results F tmps).run Try.prog w = .ok (.tuple #[.agg (rC I L), r]) w := by
  have h2' : tmps[x]?.getD undef = .pointer (some ⟨b, 0, none⟩) := by simpa using h2
  have h3' : tmps[y]?.getD undef = r := by simpa using h3
  have hl := run_loadVar_row w b t XT (rC I L) (0, 0) _ hb Try.underlying41 rfl (iT I L)
  simp [results, hF, h2', h3', asAddr, hl]
/-- The boxed argument and the result's cell. -/
structure RBox (w W : World) (T : Rv.Tb) : Prop where
  x : CsAt W w.heap.size XT (rT T)
  z : CsAt W (w.heap.size + 1) XT (rT Rv.none_)
  bel : Below w.heap.size w W
theorem rbox (w : World) (T : Rv.Tb) : RBox w ((w.alloc (.cells (rT T) XT)).alloc (.cells (rT Rv.none_) XT)) T :=
  ⟨(CsAt.new w XT (rT T)).alloc _, by simpa using CsAt.new (w.alloc (.cells (rT T) XT)) XT (rT Rv.none_), ((Below.refl w.heap.size w).alloc (Nat.le_refl _) _).alloc (by simp) _⟩
theorem RBox.in_ {w W : World} {T : Rv.Tb} (h : RBox w W T) : Below w.heap.size w W := h.bel
theorem below_row {B : Nat} {w w' : World} (h : Below B w w') {b : Nat} (hb : B ≤ b) (cs : Array Value) : Below B w (w'.setRow b cs) :=
  h.trans ⟨rfl, rfl, rfl, by simp, fun k hk => by exact setRow_other w' b k cs (by omega)⟩
set_option maxRecDepth 100000 in
set_option maxHeartbeats 2000000 in
theorem xset_c (T : Rv.Tb) (h l : Int) (w : World) :
    Calls Try.prog 23 #[.agg (rT T), .int .i64 h, .int .u64 l] w fun e w' => e = .returned (.tuple #[.agg (rT (Rv.set T h l)), .bool (Rv.inH h)]) ∧ Below w.heap.size w w' := by
  have HR := Lib.hid (rbox w T)
  go_enter Try.func23, Try.ntmps23
  go_upto_region 1 with fail
  rw [show (#[Value.bool false, Value.bool false, Value.bool false, Value.bool false, Value.bool false, Value.bool false, Value.bool false, Value.bool false, Value.int .u64 0, Value.int .u64 0, Value.int .u64 0, Value.int .u64 0, Value.int .u64 0, Value.int .u64 0, Value.int .u64 0, Value.int .u64 0] : Array Value) = rT Rv.none_ from rfl]
  generalize (w.alloc (.cells (rT T) XT)).alloc (.cells (rT Rv.none_) XT) = w1 at *
  by_cases h0 : 0 ≤ h
  · have g0 : decide (h < 0) = false := by simpa using h0
    by_cases h1 : h < 8
    · obtain ⟨k, rfl⟩ := Int.eq_ofNat_of_zero_le h0
      have hk : k < 8 := by omega
      have g1 : decide ((k : Int) > 7) = false := by simp; omega
      have HE := Lib.hid (show Rv.set T (k : Int) l = Rv.upd T k (some l) by unfold Rv.set; rw [Rv.inH_nat hk]; rfl)
      have c1 := (HR.out.x.cell k).trans (rC_b _ _ hk)
      have f1 := HR.out.x.frozen k
      have HX1 := Lib.hid (HR.out.x.setB hk true)
      have HX2 := Lib.hid (HX1.out.setL hk l)
      have HZ2 := Lib.hid ((HR.out.z.far (c := w.heap.size) (i := k) (by omega) (.bool true)).far (c := w.heap.size) (i := 8 + k) (by omega) (.int .u64 l))
      have HB2 := Lib.hid ((HR.out.bel.setCell (p := ⟨w.heap.size, k, none⟩) (Nat.le_refl _) (.bool true)).setCell (p := ⟨w.heap.size, 8 + k, none⟩) (Nat.le_refl _) (.int .u64 l))
      have c2 := (HX1.out.cell (8 + k)).trans (rC_l _ _ hk)
      have f2 := HX1.out.frozen (8 + k)
      have hu := rT_upd T k (some l)
      simp only [Option.isSome_some, Option.getD_some] at hu
      rw [hu] at HX2
      have g : (k : Int) < 8 := by omega
      clear HR HX1 hu h0 h1
      go_upto_region 4 with fail
      generalize w1.setCell ⟨w.heap.size, k, none⟩ (.bool true) = w2 at *
      go_upto_region 5 with fail
      generalize w2.setCell ⟨w.heap.size, 8 + k, none⟩ (.int .u64 l) = w3 at *
      clear c1 f1 c2 f2
      go_wp2_with (first | (refine wpList_load_row rfl XT _ rfl w.heap.size rfl XT _ (0, 0) _ HX2.out Try.underlying41 rfl (iT _ _) ?_) | (refine wpList_store_row rfl XT _ _ rfl (w.heap.size + 1) (rT _) rfl rfl XT (rT Rv.none_) HZ2.out (iT _ _) rfl (rC_one _ _) ?_))
      exact bodyPost_ret (results_rset Try.results23 _ _ (w.heap.size + 1) _ _ _ rfl rfl (HZ2.out.row _)) rfl ⟨by rw [HE.out, Rv.inH_nat hk]; rfl, below_row HB2.out (by omega) _⟩
    · have g1 : decide (h > 7) = true := by simp; omega
      have hi : Rv.inH h = false := by simp [Rv.inH]; omega
      have HE := Lib.hid (show Rv.set T h l = T by unfold Rv.set; rw [hi]; rfl)
      go_wp2_with (first | (refine wpList_load_row rfl XT _ rfl w.heap.size rfl XT (rT T) (0, 0) _ HR.out.x Try.underlying41 rfl (iT _ _) ?_) | (refine wpList_store_row rfl XT _ _ rfl (w.heap.size + 1) (rT T) rfl rfl XT (rT Rv.none_) HR.out.z (iT _ _) rfl (rC_one _ _) ?_))
      exact bodyPost_ret (results_rset Try.results23 _ _ (w.heap.size + 1) _ _ _ rfl rfl (HR.out.z.row _)) rfl ⟨by rw [HE.out]; rfl, below_row HR.out.bel (by omega) _⟩
  · have g0 : decide (h < 0) = true := by simp; omega
    have hi : Rv.inH h = false := by simp [Rv.inH]; omega
    have HE := Lib.hid (show Rv.set T h l = T by unfold Rv.set; rw [hi]; rfl)
    go_wp2_with (first | (refine wpList_load_row rfl XT _ rfl w.heap.size rfl XT (rT T) (0, 0) _ HR.out.x Try.underlying41 rfl (iT _ _) ?_) | (refine wpList_store_row rfl XT _ _ rfl (w.heap.size + 1) (rT T) rfl rfl XT (rT Rv.none_) HR.out.z (iT _ _) rfl (rC_one _ _) ?_))
    exact bodyPost_ret (results_rset Try.results23 _ _ (w.heap.size + 1) _ _ _ rfl rfl (HR.out.z.row _)) rfl ⟨by rw [HE.out]; rfl, below_row HR.out.bel (by omega) _⟩
set_option maxRecDepth 100000 in
set_option maxHeartbeats 2000000 in
theorem xclr_c (T : Rv.Tb) (h : Int) (w : World) :
    Calls Try.prog 24 #[.agg (rT T), .int .i64 h] w fun e w' => e = .returned (.tuple #[.agg (rT (Rv.clr T h)), .bool (Rv.at_ T h).isSome]) ∧ Below w.heap.size w w' := by
  have HR := Lib.hid (rbox w T)
  go_enter Try.func24, Try.ntmps24
  go_upto_region 1 with fail
  rw [show (#[Value.bool false, Value.bool false, Value.bool false, Value.bool false, Value.bool false, Value.bool false, Value.bool false, Value.bool false, Value.int .u64 0, Value.int .u64 0, Value.int .u64 0, Value.int .u64 0, Value.int .u64 0, Value.int .u64 0, Value.int .u64 0, Value.int .u64 0] : Array Value) = rT Rv.none_ from rfl]
  generalize (w.alloc (.cells (rT T) XT)).alloc (.cells (rT Rv.none_) XT) = w1 at *
  by_cases h0 : 0 ≤ h
  · have g0 : decide (h < 0) = false := by simpa using h0
    by_cases h1 : h < 8
    · obtain ⟨k, rfl⟩ := Int.eq_ofNat_of_zero_le h0
      have hk : k < 8 := by omega
      have g1 : decide ((k : Int) > 7) = false := by simp; omega
      have HE := Lib.hid (Rv.clr_in (T := T) hk)
      have HI := Lib.hid (show (Rv.at_ T (k : Int)).isSome = Rv.is T k by rw [Rv.at_in hk]; rfl)
      have c1 := (HR.out.x.cell k).trans (rC_b _ _ hk)
      have f1 := HR.out.x.frozen k
      have HX1 := Lib.hid (HR.out.x.setB hk false)
      have HX2 := Lib.hid (HX1.out.setL hk 0)
      have HZ2 := Lib.hid ((HR.out.z.far (c := w.heap.size) (i := k) (by omega) (.bool false)).far (c := w.heap.size) (i := 8 + k) (by omega) (.int .u64 0))
      have HB2 := Lib.hid ((HR.out.bel.setCell (p := ⟨w.heap.size, k, none⟩) (Nat.le_refl _) (.bool false)).setCell (p := ⟨w.heap.size, 8 + k, none⟩) (Nat.le_refl _) (.int .u64 0))
      have c2 := (HX1.out.cell (8 + k)).trans (rC_l _ _ hk)
      have f2 := HX1.out.frozen (8 + k)
      have hu := rT_upd T k none
      simp only [Option.isSome_none, Option.getD_none] at hu
      rw [hu] at HX2
      have g : (k : Int) < 8 := by omega
      clear HR HX1 hu h0 h1
      generalize Rv.is T k = made at *
      go_upto_region 5 with fail
      generalize w1.setCell ⟨w.heap.size, k, none⟩ (.bool false) = w2 at *
      go_upto_region 6 with fail
      generalize w2.setCell ⟨w.heap.size, 8 + k, none⟩ (.int .u64 0) = w3 at *
      clear c1 f1 c2 f2
      go_wp2_with (first | (refine wpList_load_row rfl XT _ rfl w.heap.size rfl XT _ (0, 0) _ HX2.out Try.underlying41 rfl (iT _ _) ?_) | (refine wpList_store_row rfl XT _ _ rfl (w.heap.size + 1) (rT _) rfl rfl XT (rT Rv.none_) HZ2.out (iT _ _) rfl (rC_one _ _) ?_))
      exact bodyPost_ret (results_rset Try.results24 _ _ (w.heap.size + 1) _ _ _ rfl rfl (HZ2.out.row _)) rfl ⟨by rw [HE.out, HI.out]; rfl, below_row HB2.out (by omega) _⟩
    · have g1 : decide (h > 7) = true := by simp; omega
      have hi : Rv.inH h = false := by simp [Rv.inH]; omega
      have HE := Lib.hid (show Rv.clr T h = T by unfold Rv.clr; rw [hi]; rfl)
      have HI := Lib.hid (Rv.at_out (T := T) hi)
      go_wp2_with (first | (refine wpList_load_row rfl XT _ rfl w.heap.size rfl XT (rT T) (0, 0) _ HR.out.x Try.underlying41 rfl (iT _ _) ?_) | (refine wpList_store_row rfl XT _ _ rfl (w.heap.size + 1) (rT T) rfl rfl XT (rT Rv.none_) HR.out.z (iT _ _) rfl (rC_one _ _) ?_))
      exact bodyPost_ret (results_rset Try.results24 _ _ (w.heap.size + 1) _ _ _ rfl rfl (HR.out.z.row _)) rfl ⟨by rw [HE.out, HI.out]; rfl, below_row HR.out.bel (by omega) _⟩
  · have g0 : decide (h < 0) = true := by simp; omega
    have hi : Rv.inH h = false := by simp [Rv.inH]; omega
    have HE := Lib.hid (show Rv.clr T h = T by unfold Rv.clr; rw [hi]; rfl)
    have HI := Lib.hid (Rv.at_out (T := T) hi)
    go_wp2_with (first | (refine wpList_load_row rfl XT _ rfl w.heap.size rfl XT (rT T) (0, 0) _ HR.out.x Try.underlying41 rfl (iT _ _) ?_) | (refine wpList_store_row rfl XT _ _ rfl (w.heap.size + 1) (rT T) rfl rfl XT (rT Rv.none_) HR.out.z (iT _ _) rfl (rC_one _ _) ?_))
    exact bodyPost_ret (results_rset Try.results24 _ _ (w.heap.size + 1) _ _ _ rfl rfl (HR.out.z.row _)) rfl ⟨by rw [HE.out, HI.out]; rfl, below_row HR.out.bel (by omega) _⟩
namespace Rv
/-- The table while the reference kills: the first k harts are through. -/
def killK (T : Tb) (l but : Int) (k : Nat) : Tb := fun i => if i < k then kill T l but i else T i
theorem killK_zero (T : Tb) (l but : Int) : killK T l but 0 = T := by funext i; simp [killK]
theorem killK_same {T : Tb} {l but : Int} {k : Nat} (h : ¬ (T k = some l ∧ (k : Int) ≠ but)) : killK T l but (k + 1) = killK T l but k := by
  funext i
  unfold killK
  by_cases e : i = k
  · subst e; simp [kill, h]
  · by_cases h1 : i < k
    · rw [if_pos (by omega), if_pos h1]
    · rw [if_neg (by omega), if_neg h1]
theorem killK_out {T : Tb} {l but : Int} {k : Nat} (h : T k = some l ∧ (k : Int) ≠ but) : killK T l but (k + 1) = upd (killK T l but k) k none := by
  funext i
  simp only [killK, upd]
  by_cases e : i = k
  · subst e; simp [kill, h]
  · rw [if_neg e]
    by_cases h1 : i < k
    · rw [if_pos (by omega), if_pos h1]
    · rw [if_neg (by omega), if_neg h1]
theorem killK_at (T : Tb) (l but : Int) (k : Nat) : killK T l but k k = T k := by simp [killK]
theorem killK_end {T : Tb} (hT : Ok T) (l but : Int) : killK T l but 8 = kill T l but := by
  funext i
  unfold killK
  split
  · rfl
  · rw [hT.out i (by omega)]
    unfold kill
    rw [hT.out i (by omega)]
    simp
end Rv
set_option maxRecDepth 100000 in
set_option maxHeartbeats 4000000 in
theorem xkill_c (T : Rv.Tb) (hT : Rv.Ok T) (l but : Int) (w : World) :
    Calls Try.prog 25 #[.agg (rT T), .int .u64 l, .int .i64 but] w fun e w' => e = .returned (.tuple #[.agg (rT (Rv.kill T l but)), .int .i64 (Rv.cnt T l but 8 : Nat)]) ∧ Below w.heap.size w w' := by
  have HR := Lib.hid (rbox w T)
  go_enter Try.func25, Try.ntmps25
  go_upto_region 1 with fail
  rw [show (#[Value.bool false, Value.bool false, Value.bool false, Value.bool false, Value.bool false, Value.bool false, Value.bool false, Value.bool false, Value.int .u64 0, Value.int .u64 0, Value.int .u64 0, Value.int .u64 0, Value.int .u64 0, Value.int .u64 0, Value.int .u64 0, Value.int .u64 0] : Array Value) = rT Rv.none_ from rfl]
  generalize (w.alloc (.cells (rT T) XT)).alloc (.cells (rT Rv.none_) XT) = w1 at *
  go_wp2_with fail
  go_loopw [9, 8] (fun i c wr => ∃ k : Nat, k ≤ 8 ∧ i = .int .i64 k ∧ c = .int .i64 (Rv.cnt T l but k : Nat) ∧ CsAt wr w.heap.size XT (rT (Rv.killK T l but k)) ∧ CsAt wr (w.heap.size + 1) XT (rT Rv.none_) ∧ Below w.heap.size w wr) (fun i _ _ => 8 - (intOf i).toNat)
  case atStart => exact ⟨0, by omega, rfl, rfl, by rw [Rv.killK_zero]; exact HR.out.x, HR.out.z, HR.out.bel⟩
  case round =>
    obtain ⟨k, hk, rfl, rfl, hx, hz, hb⟩ := hrel
    have HX := Lib.hid hx
    have HZ := Lib.hid hz
    have HB := Lib.hid hb
    clear hx hz hb HR
    have hcn := Rv.cnt_le T l but k
    by_cases hlt : k < 8
    · have g : (k : Int) < 8 := by omega
      have c1 := (HX.out.cell k).trans (rC_b _ _ hlt)
      have c2 := (HX.out.cell (8 + k)).trans (rC_l _ _ hlt)
      have hI : Rv.is (Rv.killK T l but k) k = (T k).isSome := by unfold Rv.is; rw [Rv.killK_at]
      have hL : Rv.ln (Rv.killK T l but k) k = (T k).getD 0 := by unfold Rv.ln; rw [Rv.killK_at]
      rw [hI] at c1
      rw [hL] at c2
      have HST := Lib.hid (show T k = some l ∧ (k : Int) ≠ but → Rv.killK T l but (k + 1) = Rv.upd (Rv.killK T l but k) k none ∧ Rv.cnt T l but (k + 1) = Rv.cnt T l but k + 1 from fun h => ⟨Rv.killK_out h, by rw [Rv.cnt, if_pos h]⟩)
      have HSN := Lib.hid (show ¬ (T k = some l ∧ (k : Int) ≠ but) → Rv.killK T l but (k + 1) = Rv.killK T l but k ∧ Rv.cnt T l but (k + 1) = Rv.cnt T l but k from fun h => ⟨Rv.killK_same h, by rw [Rv.cnt, if_neg h]; rfl⟩)
      clear hI hL
      by_cases hne : (k : Int) = but
      · have gn : ((k : Int) == but) = true := by simpa using hne
        have HN := Lib.hid (HSN.out (fun h => h.2 hne))
        clear HST HSN c1 c2
        go_wp2_with fail
        go_roundw
        case rel => exact ⟨k + 1, by omega, by go_num, by rw [HN.out.2], by rw [HN.out.1]; exact HX.out, HZ.out, HB.out⟩
        case measure => simp [intOf]; omega
      · have gn : ((k : Int) == but) = false := by simpa using hne
        cases ht : T k with
        | none =>
          rw [ht] at c1 c2
          have HN := Lib.hid (HSN.out (fun h => by rw [ht] at h; cases h.1))
          simp only [Option.isSome_none, Option.getD_none] at c1 c2
          clear HST HSN
          go_wp2_with fail
          go_roundw
          case rel => exact ⟨k + 1, by omega, by go_num, by rw [HN.out.2], by rw [HN.out.1]; exact HX.out, HZ.out, HB.out⟩
          case measure => simp [intOf]; omega
        | some x =>
          rw [ht] at c1 c2
          simp only [Option.isSome_some, Option.getD_some] at c1 c2
          by_cases hxl : x = l
          · have gx : (x == l) = true := by simpa using hxl
            have HN := Lib.hid (HST.out ⟨by rw [ht, hxl], hne⟩)
            have f1 := HX.out.frozen k
            have HX1 := Lib.hid (HX.out.setB hlt false)
            have HX2 := Lib.hid (HX1.out.setL hlt 0)
            have HZ2 := Lib.hid ((HZ.out.far (c := w.heap.size) (i := k) (by omega) (.bool false)).far (c := w.heap.size) (i := 8 + k) (by omega) (.int .u64 0))
            have HB2 := Lib.hid ((HB.out.setCell (p := ⟨w.heap.size, k, none⟩) (Nat.le_refl _) (.bool false)).setCell (p := ⟨w.heap.size, 8 + k, none⟩) (Nat.le_refl _) (.int .u64 0))
            have d2 := (HX1.out.cell (8 + k)).trans (rC_l _ _ hlt)
            have f2 := HX1.out.frozen (8 + k)
            have hu := rT_upd (Rv.killK T l but k) k none
            simp only [Option.isSome_none, Option.getD_none] at hu
            rw [hu, ← HN.out.1] at HX2
            clear HX HX1 hu HST HSN ht hxl
            generalize Rv.cnt T l but k = n0 at *
            go_upto_region 7 with fail
            generalize wr.setCell ⟨w.heap.size, k, none⟩ (.bool false) = w2 at *
            clear c1 c2
            go_upto_region 8 with fail
            generalize w2.setCell ⟨w.heap.size, 8 + k, none⟩ (.int .u64 0) = w3 at *
            clear d2 f2 f1
            go_wp2_with fail
            go_roundw
            case rel => exact ⟨k + 1, by omega, by go_num, by rw [HN.out.2]; go_num, HX2.out, HZ2.out, HB2.out⟩
            case measure => simp [intOf]; omega
          · have gx : (x == l) = false := by simpa using hxl
            have HN := Lib.hid (HSN.out (fun h => by rw [ht] at h; cases h.1; exact hxl rfl))
            clear HST HSN ht
            go_wp2_with fail
            go_roundw
            case rel => exact ⟨k + 1, by omega, by go_num, by rw [HN.out.2], by rw [HN.out.1]; exact HX.out, HZ.out, HB.out⟩
            case measure => simp [intOf]; omega
    · obtain rfl : k = 8 := by omega
      have HE := Lib.hid (Rv.killK_end hT l but)
      rw [HE.out] at HX
      go_wp2_with (first | (refine wpList_load_row rfl XT _ rfl w.heap.size rfl XT _ (0, 0) _ HX.out Try.underlying41 rfl (iT _ _) ?_) | (refine wpList_store_row rfl XT _ _ rfl (w.heap.size + 1) (rT _) rfl rfl XT (rT Rv.none_) HZ.out (iT _ _) rfl (rC_one _ _) ?_))
      exact bodyPost_ret (results_rset Try.results25 _ _ (w.heap.size + 1) _ _ _ rfl rfl (HZ.out.row _)) rfl ⟨rfl, below_row HB.out (by omega) _⟩
set_option maxRecDepth 100000 in
set_option maxHeartbeats 4000000 in
theorem xwho_c (T : Rv.Tb) (l : Int) (w : World) :
    Calls Try.prog 28 #[.agg (rT T), .int .u64 l] w fun e w' => ∃ v, e = .returned v ∧ w'.ownsRow w.heap.size 3 1 v (Rv.who T l 8).length (iV (Rv.who T l 8)) ∧ Below w.heap.size w w' := by
  have HX := Lib.hid (CsAt.new w XT (rT T))
  have HB := Lib.hid ((Below.refl w.heap.size w).alloc (Nat.le_refl _) (.cells (rT T) XT))
  go_enter Try.func28, Try.ntmps28
  go_upto_region 1 with fail
  generalize w.alloc (.cells (rT T) XT) = w1 at *
  go_wp2_with fail
  go_loopw [6, 5] (fun i v wr => ∃ k : Nat, k ≤ 8 ∧ i = .int .i64 k ∧ wr.ownsRow (w.heap.size + 1) 3 1 v (Rv.who T l k).length (iV (Rv.who T l k)) ∧ CsAt wr w.heap.size XT (rT T) ∧ Below w.heap.size w wr) (fun i _ _ => 8 - (intOf i).toNat)
  case atStart => exact ⟨0, by omega, rfl, World.ownsRow_nil _ _ _ _, HX.out, HB.out⟩
  case round =>
    obtain ⟨k, hk, rfl, hown, hx, hb⟩ := hrel
    have HO := Lib.hid hown
    have HXR := Lib.hid hx
    have HBR := Lib.hid hb
    clear hown hx hb HX HB
    by_cases hlt : k < 8
    · have g : (k : Int) < 8 := by omega
      have c1 := (HXR.out.cell k).trans (rC_b _ _ hlt)
      have c2 := (HXR.out.cell (8 + k)).trans (rC_l _ _ hlt)
      simp only [Rv.is, Rv.ln] at c1 c2
      by_cases ht : T k = some l
      · rw [ht] at c1 c2
        simp only [Option.isSome_some, Option.getD_some] at c1 c2
        have HE := Lib.hid (show Rv.who T l (k + 1) = Rv.who T l k ++ [(k : Int)] by rw [Rv.who, if_pos ht])
        have hlen := Rv.who_len T l k
        have hsz : w.heap.size + 1 ≤ wr.heap.size := HXR.out.lt
        clear ht
        go_wp2_with (at_builtin; refine wpList_push rfl _ _ 28 rfl (w.heap.size + 1) 3 _ 1 8 Try.underlying28 info_intR rfl (by omega) (by omega) _ (Rv.who T l k).length _ rfl HO.out #[.int .i64 (k : Int)] rfl (one_intR _) _ rfl rfl (by omega) hsz ?_)
        rintro v' w2 hown hb
        have HB2 := Lib.hid (HBR.out.trans (hb.mono (Nat.le_succ _)))
        have HX2 := Lib.hid (HXR.out.on hb (Nat.lt_succ_self _))
        have HO2 := Lib.hid (show w2.ownsRow (w.heap.size + 1) 3 1 v' (Rv.who T l (k + 1)).length (iV (Rv.who T l (k + 1))) from by
          rw [HE.out, List.length_append]
          simp only [iV, List.map_append, List.map_cons, List.map_nil, List.length_cons, List.length_nil]
          simpa using hown)
        clear hown hb
        go_wp2_with fail
        go_roundw
        case rel => exact ⟨k + 1, by omega, by go_num, HO2.out, HX2.out, HB2.out⟩
        case measure => simp [intOf]; omega
      · have HE := Lib.hid (show Rv.who T l (k + 1) = Rv.who T l k by rw [Rv.who, if_neg ht])
        cases hq : T k with
        | none =>
          rw [hq] at c1 c2
          simp only [Option.isSome_none, Option.getD_none] at c1 c2
          go_wp2_with fail
          go_roundw
          case rel => exact ⟨k + 1, by omega, by go_num, by rw [HE.out]; exact HO.out, HXR.out, HBR.out⟩
          case measure => simp [intOf]; omega
        | some x =>
          rw [hq] at c1 c2 ht
          simp only [Option.isSome_some, Option.getD_some] at c1 c2
          have gx : (x == l) = false := by simpa using ht
          clear hq ht
          go_wp2_with fail
          go_roundw
          case rel => exact ⟨k + 1, by omega, by go_num, by rw [HE.out]; exact HO.out, HXR.out, HBR.out⟩
          case measure => simp [intOf]; omega
    · obtain rfl : k = 8 := by omega
      go_wp2_with fail
      go_ret
      exact ⟨_, rfl, own_mono HO.out (Nat.le_succ _), HBR.out⟩
end Go.Proofs.Ytabackklpemhpaa
