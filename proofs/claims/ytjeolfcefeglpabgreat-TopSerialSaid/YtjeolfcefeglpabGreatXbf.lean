/-
  Contracts of the reference of layer 13: a table by its value; Set, Clear, Kill, Who. Contracts of the reference of layer 14: Right, Writes, Access, size, New, May. Contracts of the reference of layer 14: New, May.
-/
import Derived.Test.YtjeolfcefeglpabGreatXax
import Derived.Test.YtjeolfcefeglpabGreatXbc
import Derived.Test.YtjeolfcefeglpabGreatXbe
import Derived.Test.YtjeolfcefeglpabGreatXae
import Derived.Test.YtjeolfcefeglpabGreatXaq
set_option maxRecDepth 20000
namespace Go.Proofs.YtjeolfcefeglpabGreat
open Go.ChangeShapes Go.WideShapes Go.ChangeAt Go.RowKit

/-- The cells of the reference's table. -/
def rC (I : Nat → Bool) (L : Nat → Int) : Array Value := #[.bool (I 0), .bool (I 1), .bool (I 2), .bool (I 3), .bool (I 4), .bool (I 5), .bool (I 6), .bool (I 7),
  .int .u64 (L 0), .int .u64 (L 1), .int .u64 (L 2), .int .u64 (L 3), .int .u64 (L 4), .int .u64 (L 5), .int .u64 (L 6), .int .u64 (L 7)]
abbrev rT (T : Rv.Tb) : Array Value := rC (Rv.is T) (Rv.ln T)
theorem eight {k : Nat} (h : k < 8) : k = 0 ∨ k = 1 ∨ k = 2 ∨ k = 3 ∨ k = 4 ∨ k = 5 ∨ k = 6 ∨ k = 7 := by omega
theorem rC_b (I : Nat → Bool) (L : Nat → Int) {k : Nat} (h : k < 8) : (rC I L)[k]? = some (.bool (I k)) := by
  rcases eight h with rfl | rfl | rfl | rfl | rfl | rfl | rfl | rfl <;> rfl
theorem rC_l (I : Nat → Bool) (L : Nat → Int) {k : Nat} (h : k < 8) : (rC I L)[8 + k]? = some (.int .u64 (L k)) := by
  rcases eight h with rfl | rfl | rfl | rfl | rfl | rfl | rfl | rfl <;> rfl
theorem rC_setB (I : Nat → Bool) (L : Nat → Int) {k : Nat} (h : k < 8) (v : Bool) : (rC I L).setIfInBounds k (.bool v) = rC (fun i => if i = k then v else I i) L := by
  rcases eight h with rfl | rfl | rfl | rfl | rfl | rfl | rfl | rfl <;> rfl
theorem rC_setL (I : Nat → Bool) (L : Nat → Int) {k : Nat} (h : k < 8) (v : Int) : (rC I L).setIfInBounds (8 + k) (.int .u64 v) = rC I (fun i => if i = k then v else L i) := by
  rcases eight h with rfl | rfl | rfl | rfl | rfl | rfl | rfl | rfl <;> rfl
theorem rC_one (I : Nat → Bool) (L : Nat → Int) : (rC I L).all (·.oneCell') = true := by simp [rC, Value.oneCell']
theorem rT_upd (T : Rv.Tb) (k : Nat) (v : Option Int) : rC (fun i => if i = k then v.isSome else Rv.is T i) (fun i => if i = k then v.getD 0 else Rv.ln T i) = rT (Rv.upd T k v) := by
  have e1 : (fun i => if i = k then v.isSome else Rv.is T i) = Rv.is (Rv.upd T k v) := by funext i; unfold Rv.is Rv.upd; split <;> rfl
  have e2 : (fun i => if i = k then v.getD 0 else Rv.ln T i) = Rv.ln (Rv.upd T k v) := by funext i; unfold Rv.ln Rv.upd; split <;> rfl
  rw [e1, e2]
abbrev XT : TypeId := 41
theorem CsAt.setB {w : World} {b : Nat} {t : TypeId} {I : Nat → Bool} {L : Nat → Int} (h : CsAt w b t (rC I L)) {k : Nat} (hk : k < 8) (v : Bool) : CsAt (w.setCell ⟨b, k, none⟩ (.bool v)) b t (rC (fun i => if i = k then v else I i) L) := by
  unfold CsAt
  rw [heap_setCell_same w b k _ t _ h, rC_setB I L hk]
theorem CsAt.setL {w : World} {b : Nat} {t : TypeId} {I : Nat → Bool} {L : Nat → Int} (h : CsAt w b t (rC I L)) {k : Nat} (hk : k < 8) (v : Int) : CsAt (w.setCell ⟨b, 8 + k, none⟩ (.int .u64 v)) b t (rC I (fun i => if i = k then v else L i)) := by
  unfold CsAt
  rw [heap_setCell_same w b (8 + k) _ t _ h, rC_setL I L hk]
theorem info_T : (Tryz.prog.info? XT).map (·.size) = some 16 := by kernel_rfl
theorem iT (I : Nat → Bool) (L : Nat → Int) : (Tryz.prog.info? XT).map (·.size) = some (rC I L).size := info_T
set_option maxRecDepth 100000 in
theorem results_rset {F : Func} {x y : Tmp} {t : TypeId} (hF : F.results = #[.cell x XT, .tmp y]) (tmps : Array Value) (w : World) (b : Nat) (I : Nat → Bool) (L : Nat → Int) (r : Value) (h2 : tmps.getD x undef = .pointer (some ⟨b, 0, none⟩)) (h3 : tmps.getD y undef = r) (hb : CsAt w b t (rC I L)) :
    (results F tmps).run Tryz.prog w = .ok (.tuple #[.agg (rC I L), r]) w := by
  have h2' : tmps[x]?.getD undef = .pointer (some ⟨b, 0, none⟩) := by simpa using h2
  have h3' : tmps[y]?.getD undef = r := by simpa using h3
  have hl := run_loadVar_row w b t XT (rC I L) (0, 0) _ hb Tryz.underlying41 rfl (iT I L)
  simp [results, hF, h2', h3', asAddr, hl]
/-- The boxed argument and the result's cell. -/
structure RBox (w W : World) (T : Rv.Tb) : Prop where
  x : CsAt W w.heap.size XT (rT T)
  z : CsAt W (w.heap.size + 1) XT (rT Rv.none_)
  bel : Below w.heap.size w W
theorem rbox (w : World) (T : Rv.Tb) : RBox w ((w.alloc (.cells (rT T) XT)).alloc (.cells (rT Rv.none_) XT)) T :=
  ⟨(CsAt.new w XT (rT T)).alloc _, by simpa using CsAt.new (w.alloc (.cells (rT T) XT)) XT (rT Rv.none_), ((Below.refl w.heap.size w).alloc (Nat.le_refl _) _).alloc (by simp) _⟩
theorem RBox.in_ {w W : World} {T : Rv.Tb} (h : RBox w W T) : Below w.heap.size w W := h.bel
theorem below_row {B : Nat} {w w' : World} (h : Below B w w') {b : Nat} (hb : B ≤ b) (cs : Array Value) : Below B w (w'.setRow b cs) :=
  h.trans ⟨rfl, rfl, rfl, by simp, fun k hk => by exact setRow_other w' b k cs (by omega)⟩
set_option maxRecDepth 100000 in
set_option maxHeartbeats 2000000 in
theorem xset_c (T : Rv.Tb) (h l : Int) (w : World) :
    Calls Tryz.prog 49 #[.agg (rT T), .int .i64 h, .int .u64 l] w fun e w' => e = .returned (.tuple #[.agg (rT (Rv.set T h l)), .bool (Rv.inH h)]) ∧ Below w.heap.size w w' := by
  have HR := Lib.hid (rbox w T)
  go_enter Tryz.func49, Tryz.ntmps49
  go_upto_region 1 with fail
  rw [show (#[Value.bool false, Value.bool false, Value.bool false, Value.bool false, Value.bool false, Value.bool false, Value.bool false, Value.bool false, Value.int .u64 0, Value.int .u64 0, Value.int .u64 0, Value.int .u64 0, Value.int .u64 0, Value.int .u64 0, Value.int .u64 0, Value.int .u64 0] : Array Value) = rT Rv.none_ from rfl]
  generalize (w.alloc (.cells (rT T) XT)).alloc (.cells (rT Rv.none_) XT) = w1 at *
  by_cases h0 : 0 ≤ h
  · have g0 : decide (h < 0) = false := by simpa using h0
    by_cases h1 : h < 8
    · obtain ⟨k, rfl⟩ := Int.eq_ofNat_of_zero_le h0
      have hk : k < 8 := by omega
      have g1 : decide ((k : Int) > 7) = false := by simp; omega
      have HE := Lib.hid (show Rv.set T (k : Int) l = Rv.upd T k (some l) by unfold Rv.set; rw [Rv.inH_nat hk]; rfl)
      have c1 := (HR.out.x.cell k).trans (rC_b _ _ hk)
      have f1 := HR.out.x.frozen k
      have HX1 := Lib.hid (HR.out.x.setB hk true)
      have HX2 := Lib.hid (HX1.out.setL hk l)
      have HZ2 := Lib.hid ((HR.out.z.far (c := w.heap.size) (i := k) (by omega) (.bool true)).far (c := w.heap.size) (i := 8 + k) (by omega) (.int .u64 l))
      have HB2 := Lib.hid ((HR.out.bel.setCell (p := ⟨w.heap.size, k, none⟩) (Nat.le_refl _) (.bool true)).setCell (p := ⟨w.heap.size, 8 + k, none⟩) (Nat.le_refl _) (.int .u64 l))
      have c2 := (HX1.out.cell (8 + k)).trans (rC_l _ _ hk)
      have f2 := HX1.out.frozen (8 + k)
      have hu := rT_upd T k (some l)
      simp only [Option.isSome_some, Option.getD_some] at hu
      rw [hu] at HX2
      have g : (k : Int) < 8 := by omega
      clear HR HX1 hu h0 h1
      go_upto_region 4 with fail
      generalize w1.setCell ⟨w.heap.size, k, none⟩ (.bool true) = w2 at *
      go_upto_region 5 with fail
      generalize w2.setCell ⟨w.heap.size, 8 + k, none⟩ (.int .u64 l) = w3 at *
      clear c1 f1 c2 f2
      go_wp2_with (first | (refine wpList_load_row rfl XT _ rfl w.heap.size rfl XT _ (0, 0) _ HX2.out Tryz.underlying41 rfl (iT _ _) ?_) | (refine wpList_store_row rfl XT _ _ rfl (w.heap.size + 1) (rT _) rfl rfl XT (rT Rv.none_) HZ2.out (iT _ _) rfl (rC_one _ _) ?_))
      exact bodyPost_ret (results_rset Tryz.results49 _ _ (w.heap.size + 1) _ _ _ rfl rfl (HZ2.out.row _)) rfl ⟨by rw [HE.out, Rv.inH_nat hk]; rfl, below_row HB2.out (by omega) _⟩
    · have g1 : decide (h > 7) = true := by simp; omega
      have hi : Rv.inH h = false := by simp [Rv.inH]; omega
      have HE := Lib.hid (show Rv.set T h l = T by unfold Rv.set; rw [hi]; rfl)
      go_wp2_with (first | (refine wpList_load_row rfl XT _ rfl w.heap.size rfl XT (rT T) (0, 0) _ HR.out.x Tryz.underlying41 rfl (iT _ _) ?_) | (refine wpList_store_row rfl XT _ _ rfl (w.heap.size + 1) (rT T) rfl rfl XT (rT Rv.none_) HR.out.z (iT _ _) rfl (rC_one _ _) ?_))
      exact bodyPost_ret (results_rset Tryz.results49 _ _ (w.heap.size + 1) _ _ _ rfl rfl (HR.out.z.row _)) rfl ⟨by rw [HE.out]; rfl, below_row HR.out.bel (by omega) _⟩
  · have g0 : decide (h < 0) = true := by simp; omega
    have hi : Rv.inH h = false := by simp [Rv.inH]; omega
    have HE := Lib.hid (show Rv.set T h l = T by unfold Rv.set; rw [hi]; rfl)
    go_wp2_with (first | (refine wpList_load_row rfl XT _ rfl w.heap.size rfl XT (rT T) (0, 0) _ HR.out.x Tryz.underlying41 rfl (iT _ _) ?_) | (refine wpList_store_row rfl XT _ _ rfl (w.heap.size + 1) (rT T) rfl rfl XT (rT Rv.none_) HR.out.z (iT _ _) rfl (rC_one _ _) ?_))
    exact bodyPost_ret (results_rset Tryz.results49 _ _ (w.heap.size + 1) _ _ _ rfl rfl (HR.out.z.row _)) rfl ⟨by rw [HE.out]; rfl, below_row HR.out.bel (by omega) _⟩
set_option maxRecDepth 100000 in
set_option maxHeartbeats 2000000 in
theorem xclr_c (T : Rv.Tb) (h : Int) (w : World) :
    Calls Tryz.prog 50 #[.agg (rT T), .int .i64 h] w fun e w' => e = .returned (.tuple #[.agg (rT (Rv.clr T h)), .bool (Rv.at_ T h).isSome]) ∧ Below w.heap.size w w' := by
  have HR := Lib.hid (rbox w T)
  go_enter Tryz.func50, Tryz.ntmps50
  go_upto_region 1 with fail
  rw [show (#[Value.bool false, Value.bool false, Value.bool false, Value.bool false, Value.bool false, Value.bool false, Value.bool false, Value.bool false, Value.int .u64 0, Value.int .u64 0, Value.int .u64 0, Value.int .u64 0, Value.int .u64 0, Value.int .u64 0, Value.int .u64 0, Value.int .u64 0] : Array Value) = rT Rv.none_ from rfl]
  generalize (w.alloc (.cells (rT T) XT)).alloc (.cells (rT Rv.none_) XT) = w1 at *
  by_cases h0 : 0 ≤ h
  · have g0 : decide (h < 0) = false := by simpa using h0
    by_cases h1 : h < 8
    · obtain ⟨k, rfl⟩ := Int.eq_ofNat_of_zero_le h0
      have hk : k < 8 := by omega
      have g1 : decide ((k : Int) > 7) = false := by simp; omega
      have HE := Lib.hid (Rv.clr_in (T := T) hk)
      have HI := Lib.hid (show (Rv.at_ T (k : Int)).isSome = Rv.is T k by rw [Rv.at_in hk]; rfl)
      have c1 := (HR.out.x.cell k).trans (rC_b _ _ hk)
      have f1 := HR.out.x.frozen k
      have HX1 := Lib.hid (HR.out.x.setB hk false)
      have HX2 := Lib.hid (HX1.out.setL hk 0)
      have HZ2 := Lib.hid ((HR.out.z.far (c := w.heap.size) (i := k) (by omega) (.bool false)).far (c := w.heap.size) (i := 8 + k) (by omega) (.int .u64 0))
      have HB2 := Lib.hid ((HR.out.bel.setCell (p := ⟨w.heap.size, k, none⟩) (Nat.le_refl _) (.bool false)).setCell (p := ⟨w.heap.size, 8 + k, none⟩) (Nat.le_refl _) (.int .u64 0))
      have c2 := (HX1.out.cell (8 + k)).trans (rC_l _ _ hk)
      have f2 := HX1.out.frozen (8 + k)
      have hu := rT_upd T k none
      simp only [Option.isSome_none, Option.getD_none] at hu
      rw [hu] at HX2
      have g : (k : Int) < 8 := by omega
      clear HR HX1 hu h0 h1
      generalize Rv.is T k = made at *
      go_upto_region 5 with fail
      generalize w1.setCell ⟨w.heap.size, k, none⟩ (.bool false) = w2 at *
      go_upto_region 6 with fail
      generalize w2.setCell ⟨w.heap.size, 8 + k, none⟩ (.int .u64 0) = w3 at *
      clear c1 f1 c2 f2
      go_wp2_with (first | (refine wpList_load_row rfl XT _ rfl w.heap.size rfl XT _ (0, 0) _ HX2.out Tryz.underlying41 rfl (iT _ _) ?_) | (refine wpList_store_row rfl XT _ _ rfl (w.heap.size + 1) (rT _) rfl rfl XT (rT Rv.none_) HZ2.out (iT _ _) rfl (rC_one _ _) ?_))
      exact bodyPost_ret (results_rset Tryz.results50 _ _ (w.heap.size + 1) _ _ _ rfl rfl (HZ2.out.row _)) rfl ⟨by rw [HE.out, HI.out]; rfl, below_row HB2.out (by omega) _⟩
    · have g1 : decide (h > 7) = true := by simp; omega
      have hi : Rv.inH h = false := by simp [Rv.inH]; omega
      have HE := Lib.hid (show Rv.clr T h = T by unfold Rv.clr; rw [hi]; rfl)
      have HI := Lib.hid (Rv.at_out (T := T) hi)
      go_wp2_with (first | (refine wpList_load_row rfl XT _ rfl w.heap.size rfl XT (rT T) (0, 0) _ HR.out.x Tryz.underlying41 rfl (iT _ _) ?_) | (refine wpList_store_row rfl XT _ _ rfl (w.heap.size + 1) (rT T) rfl rfl XT (rT Rv.none_) HR.out.z (iT _ _) rfl (rC_one _ _) ?_))
      exact bodyPost_ret (results_rset Tryz.results50 _ _ (w.heap.size + 1) _ _ _ rfl rfl (HR.out.z.row _)) rfl ⟨by rw [HE.out, HI.out]; rfl, below_row HR.out.bel (by omega) _⟩
  · have g0 : decide (h < 0) = true := by simp; omega
    have hi : Rv.inH h = false := by simp [Rv.inH]; omega
    have HE := Lib.hid (show Rv.clr T h = T by unfold Rv.clr; rw [hi]; rfl)
    have HI := Lib.hid (Rv.at_out (T := T) hi)
    go_wp2_with (first | (refine wpList_load_row rfl XT _ rfl w.heap.size rfl XT (rT T) (0, 0) _ HR.out.x Tryz.underlying41 rfl (iT _ _) ?_) | (refine wpList_store_row rfl XT _ _ rfl (w.heap.size + 1) (rT T) rfl rfl XT (rT Rv.none_) HR.out.z (iT _ _) rfl (rC_one _ _) ?_))
    exact bodyPost_ret (results_rset Tryz.results50 _ _ (w.heap.size + 1) _ _ _ rfl rfl (HR.out.z.row _)) rfl ⟨by rw [HE.out, HI.out]; rfl, below_row HR.out.bel (by omega) _⟩
namespace Rv
/-- The table while the reference kills: the first k harts are through. -/
def killK (T : Tb) (l but : Int) (k : Nat) : Tb := fun i => if i < k then kill T l but i else T i
theorem killK_zero (T : Tb) (l but : Int) : killK T l but 0 = T := by funext i; simp [killK]
theorem killK_same {T : Tb} {l but : Int} {k : Nat} (h : ¬ (T k = some l ∧ (k : Int) ≠ but)) : killK T l but (k + 1) = killK T l but k := by
  funext i
  unfold killK
  by_cases e : i = k
  · subst e; simp [kill, h]
  · by_cases h1 : i < k
    · rw [if_pos (by omega), if_pos h1]
    · rw [if_neg (by omega), if_neg h1]
theorem killK_out {T : Tb} {l but : Int} {k : Nat} (h : T k = some l ∧ (k : Int) ≠ but) : killK T l but (k + 1) = upd (killK T l but k) k none := by
  funext i
  simp only [killK, upd]
  by_cases e : i = k
  · subst e; simp [kill, h]
  · rw [if_neg e]
    by_cases h1 : i < k
    · rw [if_pos (by omega), if_pos h1]
    · rw [if_neg (by omega), if_neg h1]
theorem killK_at (T : Tb) (l but : Int) (k : Nat) : killK T l but k k = T k := by simp [killK]
theorem killK_end {T : Tb} (hT : Ok T) (l but : Int) : killK T l but 8 = kill T l but := by
  funext i
  unfold killK
  split
  · rfl
  · rw [hT.out i (by omega)]
    unfold kill
    rw [hT.out i (by omega)]
    simp
end Rv
set_option maxRecDepth 100000 in
set_option maxHeartbeats 4000000 in
theorem xkill_c (T : Rv.Tb) (hT : Rv.Ok T) (l but : Int) (w : World) :
    Calls Tryz.prog 85 #[.agg (rT T), .int .u64 l, .int .i64 but] w fun e w' => e = .returned (.tuple #[.agg (rT (Rv.kill T l but)), .int .i64 (Rv.cnt T l but 8 : Nat)]) ∧ Below w.heap.size w w' := by
  have HR := Lib.hid (rbox w T)
  go_enter Tryz.func85, Tryz.ntmps85
  go_upto_region 1 with fail
  rw [show (#[Value.bool false, Value.bool false, Value.bool false, Value.bool false, Value.bool false, Value.bool false, Value.bool false, Value.bool false, Value.int .u64 0, Value.int .u64 0, Value.int .u64 0, Value.int .u64 0, Value.int .u64 0, Value.int .u64 0, Value.int .u64 0, Value.int .u64 0] : Array Value) = rT Rv.none_ from rfl]
  generalize (w.alloc (.cells (rT T) XT)).alloc (.cells (rT Rv.none_) XT) = w1 at *
  go_wp2_with fail
  go_loopw [9, 8] (fun i c wr => ∃ k : Nat, k ≤ 8 ∧ i = .int .i64 k ∧ c = .int .i64 (Rv.cnt T l but k : Nat) ∧ CsAt wr w.heap.size XT (rT (Rv.killK T l but k)) ∧ CsAt wr (w.heap.size + 1) XT (rT Rv.none_) ∧ Below w.heap.size w wr) (fun i _ _ => 8 - (intOf i).toNat)
  case atStart => exact ⟨0, by omega, rfl, rfl, by rw [Rv.killK_zero]; exact HR.out.x, HR.out.z, HR.out.bel⟩
  case round =>
    obtain ⟨k, hk, rfl, rfl, hx, hz, hb⟩ := hrel
    have HX := Lib.hid hx
    have HZ := Lib.hid hz
    have HB := Lib.hid hb
    clear hx hz hb HR
    have hcn := Rv.cnt_le T l but k
    by_cases hlt : k < 8
    · have g : (k : Int) < 8 := by omega
      have c1 := (HX.out.cell k).trans (rC_b _ _ hlt)
      have c2 := (HX.out.cell (8 + k)).trans (rC_l _ _ hlt)
      have hI : Rv.is (Rv.killK T l but k) k = (T k).isSome := by unfold Rv.is; rw [Rv.killK_at]
      have hL : Rv.ln (Rv.killK T l but k) k = (T k).getD 0 := by unfold Rv.ln; rw [Rv.killK_at]
      rw [hI] at c1
      rw [hL] at c2
      have HST := Lib.hid (show T k = some l ∧ (k : Int) ≠ but → Rv.killK T l but (k + 1) = Rv.upd (Rv.killK T l but k) k none ∧ Rv.cnt T l but (k + 1) = Rv.cnt T l but k + 1 from fun h => ⟨Rv.killK_out h, by rw [Rv.cnt, if_pos h]⟩)
      have HSN := Lib.hid (show ¬ (T k = some l ∧ (k : Int) ≠ but) → Rv.killK T l but (k + 1) = Rv.killK T l but k ∧ Rv.cnt T l but (k + 1) = Rv.cnt T l but k from fun h => ⟨Rv.killK_same h, by rw [Rv.cnt, if_neg h]; rfl⟩)
      clear hI hL
      by_cases hne : (k : Int) = but
      · have gn : ((k : Int) == but) = true := by simpa using hne
        have HN := Lib.hid (HSN.out (fun h => h.2 hne))
        clear HST HSN c1 c2
        go_wp2_with fail
        go_roundw
        case rel => exact ⟨k + 1, by omega, by go_num, by rw [HN.out.2], by rw [HN.out.1]; exact HX.out, HZ.out, HB.out⟩
        case measure => simp [intOf]; omega
      · have gn : ((k : Int) == but) = false := by simpa using hne
        cases ht : T k with
        | none =>
          rw [ht] at c1 c2
          have HN := Lib.hid (HSN.out (fun h => by rw [ht] at h; cases h.1))
          simp only [Option.isSome_none, Option.getD_none] at c1 c2
          clear HST HSN
          go_wp2_with fail
          go_roundw
          case rel => exact ⟨k + 1, by omega, by go_num, by rw [HN.out.2], by rw [HN.out.1]; exact HX.out, HZ.out, HB.out⟩
          case measure => simp [intOf]; omega
        | some x =>
          rw [ht] at c1 c2
          simp only [Option.isSome_some, Option.getD_some] at c1 c2
          by_cases hxl : x = l
          · have gx : (x == l) = true := by simpa using hxl
            have HN := Lib.hid (HST.out ⟨by rw [ht, hxl], hne⟩)
            have f1 := HX.out.frozen k
            have HX1 := Lib.hid (HX.out.setB hlt false)
            have HX2 := Lib.hid (HX1.out.setL hlt 0)
            have HZ2 := Lib.hid ((HZ.out.far (c := w.heap.size) (i := k) (by omega) (.bool false)).far (c := w.heap.size) (i := 8 + k) (by omega) (.int .u64 0))
            have HB2 := Lib.hid ((HB.out.setCell (p := ⟨w.heap.size, k, none⟩) (Nat.le_refl _) (.bool false)).setCell (p := ⟨w.heap.size, 8 + k, none⟩) (Nat.le_refl _) (.int .u64 0))
            have d2 := (HX1.out.cell (8 + k)).trans (rC_l _ _ hlt)
            have f2 := HX1.out.frozen (8 + k)
            have hu := rT_upd (Rv.killK T l but k) k none
            simp only [Option.isSome_none, Option.getD_none] at hu
            rw [hu, ← HN.out.1] at HX2
            clear HX HX1 hu HST HSN ht hxl
            generalize Rv.cnt T l but k = n0 at *
            go_upto_region 7 with fail
            generalize wr.setCell ⟨w.heap.size, k, none⟩ (.bool false) = w2 at *
            clear c1 c2
            go_upto_region 8 with fail
            generalize w2.setCell ⟨w.heap.size, 8 + k, none⟩ (.int .u64 0) = w3 at *
            clear d2 f2 f1
            go_wp2_with fail
            go_roundw
            case rel => exact ⟨k + 1, by omega, by go_num, by rw [HN.out.2]; go_num, HX2.out, HZ2.out, HB2.out⟩
            case measure => simp [intOf]; omega
          · have gx : (x == l) = false := by simpa using hxl
            have HN := Lib.hid (HSN.out (fun h => by rw [ht] at h; cases h.1; exact hxl rfl))
            clear HST HSN ht
            go_wp2_with fail
            go_roundw
            case rel => exact ⟨k + 1, by omega, by go_num, by rw [HN.out.2], by rw [HN.out.1]; exact HX.out, HZ.out, HB.out⟩
            case measure => simp [intOf]; omega
    · obtain rfl : k = 8 := by omega
      have HE := Lib.hid (Rv.killK_end hT l but)
      rw [HE.out] at HX
      go_wp2_with (first | (refine wpList_load_row rfl XT _ rfl w.heap.size rfl XT _ (0, 0) _ HX.out Tryz.underlying41 rfl (iT _ _) ?_) | (refine wpList_store_row rfl XT _ _ rfl (w.heap.size + 1) (rT _) rfl rfl XT (rT Rv.none_) HZ.out (iT _ _) rfl (rC_one _ _) ?_))
      exact bodyPost_ret (results_rset Tryz.results85 _ _ (w.heap.size + 1) _ _ _ rfl rfl (HZ.out.row _)) rfl ⟨rfl, below_row HB.out (by omega) _⟩
end Go.Proofs.YtjeolfcefeglpabGreat
set_option maxRecDepth 20000
namespace Go.Proofs.YtjeolfcefeglpabGreat
open Go.ChangeShapes Go.WideShapes Go.ChangeAt Go.RowKit Wd

abbrev RAT : TypeId := 161
abbrev SXT : TypeId := 43
set_option maxHeartbeats 1000000 in
theorem raccess_c (a : Ak) (w : World) : Calls Tryz.prog 80 #[.agg (akC a)] w fun e w' => e = .returned (.agg (axV a.addr a.next a.cut a.size)) ∧ Below w.heap.size w w' := by
  have HA := akAt_new w a
  have hb := box_below w (akC a) AKT
  have hz := box_below (w.alloc (.cells (akC a) AKT)) (axV 0 0 0 0) RAT
  have HB := Lib.hid (hb.trans (hz.mono hb.size))
  have HZ := Lib.hid (show CsAt ((w.alloc (.cells (akC a) AKT)).alloc (.cells (axV 0 0 0 0) RAT)) (w.heap.size + 1) RAT (axV 0 0 0 0) by simpa using CsAt.new (w.alloc (.cells (akC a) AKT)) RAT (axV 0 0 0 0))
  have hA := HA.low hz
  have d1 := hA.addr
  have d2 := hA.next
  have d3 := hA.cut
  have d4 := hA.size
  clear hb hz HA hA
  go_enter Tryz.func80, Tryz.ntmps80
  go_upto_region 1 with fail
  rw [show (#[Value.int .u64 0, .int .u64 0, .int .i64 0, .int .i64 0] : Array Value) = axV 0 0 0 0 from rfl]
  generalize (w.alloc (.cells (akC a) AKT)).alloc (.cells (axV 0 0 0 0) RAT) = w1 at *
  go_wp2_with (refine wpList_store_row rfl RAT _ _ rfl (w.heap.size + 1) (axV a.addr a.next a.cut a.size) rfl rfl RAT (axV 0 0 0 0) HZ.out (by kernel_rfl) rfl (ax_one _ _ _ _) ?_)
  exact bodyPost_ret (results_cell_row Tryz.results80 _ _ (w.heap.size + 1) RAT (axV a.addr a.next a.cut a.size) (0, 0) _ rfl (HZ.out.row _) Tryz.underlying161 rfl (by kernel_rfl)) rfl ⟨rfl, HB.out.trans ⟨rfl, rfl, rfl, by simp, fun k hk => setRow_other w1 _ k _ (by omega)⟩⟩
/-- The reference's size. -/
def szR (a : Ak) : Int := if a.kind = 2 ∨ a.kind = 3 then 0 else if szS a = 0 then -1 else szS a
theorem size7 {op : Int} (h : kindN op = 1 ∨ kindN op = 2 ∨ kindN op = 3) : sizeS op ≠ 0 := by
  have hc : classS op = 7 := by
    unfold kindN at h
    split at h
    · assumption
    · omega
  have hr := class_seven.1 hc
  have l2 : ∀ k : Fin 99, 67 ≤ k.val → k.val ≤ 88 → sizeL.getD k.val 0 ≠ 0 := by decide +kernel
  have := l2 ⟨op.toNat, by omega⟩ (by simp only; omega) (by simp only; omega)
  unfold sizeS
  rw [if_pos (by omega)]
  simp only at this
  omega
theorem szR_op {a : Ak} {k : Int} (hk : a.kind = 4 ∧ k = 1 ∨ a.kind = 5 ∧ k = 2 ∨ a.kind = 6 ∧ k = 3) : szR a = if kindN a.op = k then sizeS a.op else -1 := by
  have e : szS a = if kindN a.op = k then sizeS a.op else 0 := by
    rcases hk with ⟨h, rfl⟩ | ⟨h, rfl⟩ | ⟨h, rfl⟩
    · rw [szS_4 h, isB_one]; simp
    · rw [szS_5 h, linkB_two]; simp
    · rw [szS_6 h, condB_three]; simp
  unfold szR
  rw [if_neg (by omega), e]
  by_cases h : kindN a.op = k
  · rw [if_pos h, if_pos h, if_neg (size7 (by omega))]
  · rw [if_neg h, if_neg h, if_pos rfl]
set_option maxHeartbeats 4000000 in
theorem rsize_c (a : Ak) (w : World) : Calls Tryz.prog 79 #[.agg (akC a)] w fun e w' => e = .returned (.int .i64 (szR a)) ∧ Below w.heap.size w w' := by
  have hB := box_below w (akC a) AKT
  have HB := Lib.hid hB
  have HA0 := akAt_new w a
  have HA := Lib.hid HA0
  have d0 := HA0.kind
  have d5 := HA0.op
  clear HA0
  go_enter Tryz.func79, Tryz.ntmps79
  go_upto_region 1 with fail
  generalize w.alloc (.cells (akC a) AKT) = w1 at *
  by_cases k23 : a.kind = 2 ∨ a.kind = 3
  · have HE := Lib.hid (show szR a = 0 by unfold szR; rw [if_pos k23])
    clear d5
    rcases k23 with k | k
    all_goals
      rw [k] at d0
      clear k
      go_wp2_with fail
      go_ret
      exact ⟨by rw [HE.out]; rfl, HB.out⟩
  · by_cases k1 : a.kind = 1
    · have HE := Lib.hid (show szR a = 4 by unfold szR; rw [if_neg k23, szS_1 k1]; rfl)
      rw [k1] at d0
      clear k1 k23 d5
      go_wp2_with fail
      go_ret
      exact ⟨by rw [HE.out]; rfl, HB.out⟩
    · by_cases k78 : a.kind = 7 ∨ a.kind = 8
      · have HE := Lib.hid (show szR a = 8 by unfold szR; rw [if_neg k23, szS_78 k78]; rfl)
        clear d5
        rcases k78 with k | k
        all_goals
          rw [k] at d0
          clear k k23 k1
          go_wp2_with fail
          go_ret
          exact ⟨by rw [HE.out]; rfl, HB.out⟩
      · by_cases k456 : a.kind = 4 ∨ a.kind = 5 ∨ a.kind = 6
        · rcases k456 with k | k | k
          · have HE := Lib.hid (szR_op (k := 1) (a := a) (by omega))
            rw [k] at d0
            clear k k23 k1 k78
            go_wp2_with fail
            refine (refIs_c a.op w1).mono ?_
            rintro e w2 ⟨rfl, hb2⟩
            have HB2 := Lib.hid (HB.out.trans (hb2.mono HB.out.size))
            have e5 := (HA.out.low hb2).op
            clear hb2 d5 d0
            by_cases hk : kindN a.op = 1
            · have HE2 := Lib.hid (HE.out.trans (if_pos hk))
              rw [hk]
              clear hk
              go_wp2_with fail
              refine (refSize_c a.op w2).mono ?_
              rintro e w3 ⟨rfl, hb3⟩
              have HB3 := Lib.hid (HB2.out.trans (hb3.mono HB2.out.size))
              clear hb3
              go_wp2_with fail
              go_ret
              exact ⟨by rw [HE2.out]; rfl, HB3.out⟩
            · have HE2 := Lib.hid (HE.out.trans (if_neg hk))
              have gk : (kindN a.op == 1) = false := by simpa using hk
              clear hk e5
              go_wp2_with fail
              go_ret
              exact ⟨by rw [HE2.out]; rfl, HB2.out⟩
          · have HE := Lib.hid (szR_op (k := 2) (a := a) (by omega))
            rw [k] at d0
            clear k k23 k1 k78
            go_wp2_with fail
            refine (refIs_c a.op w1).mono ?_
            rintro e w2 ⟨rfl, hb2⟩
            have HB2 := Lib.hid (HB.out.trans (hb2.mono HB.out.size))
            have e5 := (HA.out.low hb2).op
            clear hb2 d5 d0
            by_cases hk : kindN a.op = 2
            · have HE2 := Lib.hid (HE.out.trans (if_pos hk))
              rw [hk]
              clear hk
              go_wp2_with fail
              refine (refSize_c a.op w2).mono ?_
              rintro e w3 ⟨rfl, hb3⟩
              have HB3 := Lib.hid (HB2.out.trans (hb3.mono HB2.out.size))
              clear hb3
              go_wp2_with fail
              go_ret
              exact ⟨by rw [HE2.out]; rfl, HB3.out⟩
            · have HE2 := Lib.hid (HE.out.trans (if_neg hk))
              have gk : (kindN a.op == 2) = false := by simpa using hk
              clear hk e5
              go_wp2_with fail
              go_ret
              exact ⟨by rw [HE2.out]; rfl, HB2.out⟩
          · have HE := Lib.hid (szR_op (k := 3) (a := a) (by omega))
            rw [k] at d0
            clear k k23 k1 k78
            go_wp2_with fail
            refine (refIs_c a.op w1).mono ?_
            rintro e w2 ⟨rfl, hb2⟩
            have HB2 := Lib.hid (HB.out.trans (hb2.mono HB.out.size))
            have e5 := (HA.out.low hb2).op
            clear hb2 d5 d0
            by_cases hk : kindN a.op = 3
            · have HE2 := Lib.hid (HE.out.trans (if_pos hk))
              rw [hk]
              clear hk
              go_wp2_with fail
              refine (refSize_c a.op w2).mono ?_
              rintro e w3 ⟨rfl, hb3⟩
              have HB3 := Lib.hid (HB2.out.trans (hb3.mono HB2.out.size))
              clear hb3
              go_wp2_with fail
              go_ret
              exact ⟨by rw [HE2.out]; rfl, HB3.out⟩
            · have HE2 := Lib.hid (HE.out.trans (if_neg hk))
              have gk : (kindN a.op == 3) = false := by simpa using hk
              clear hk e5
              go_wp2_with fail
              go_ret
              exact ⟨by rw [HE2.out]; rfl, HB2.out⟩
        · have HE := Lib.hid (show szR a = -1 by unfold szR; rw [if_neg k23, szS_no (by omega)]; rfl)
          have g : ∀ n : Int, 1 ≤ n → n ≤ 8 → (a.kind == n) = false := fun n h1 h2 => by simp; omega
          have g1 := g 1 (by omega) (by omega)
          have g2 := g 2 (by omega) (by omega)
          have g3 := g 3 (by omega) (by omega)
          have g4 := g 4 (by omega) (by omega)
          have g5 := g 5 (by omega) (by omega)
          have g6 := g 6 (by omega) (by omega)
          have g7 := g 7 (by omega) (by omega)
          have g8 := g 8 (by omega) (by omega)
          clear g k1 k23 k78 k456 d5
          go_wp2_with fail
          go_ret
          exact ⟨by rw [HE.out]; rfl, HB.out⟩
end Go.Proofs.YtjeolfcefeglpabGreat
set_option maxRecDepth 20000
namespace Go.Proofs.YtjeolfcefeglpabGreat
open Go.ChangeShapes Go.WideShapes Go.ChangeAt Go.RowKit Wd

/-- The reference's memory, in cells. -/
def sxC (c : Cf) (g n cap : Nat) (I : Nat → Bool) (L : Nat → Int) : Array Value := #[.int .i64 c.harts, .int .i64 c.stripes, .int .i64 c.lines, .int .i64 c.tlb, .slice (some ⟨g, 0, none⟩) (64 * n) cap,
  .bool (I 0), .bool (I 1), .bool (I 2), .bool (I 3), .bool (I 4), .bool (I 5), .bool (I 6), .bool (I 7), .int .u64 (L 0), .int .u64 (L 1), .int .u64 (L 2), .int .u64 (L 3), .int .u64 (L 4), .int .u64 (L 5), .int .u64 (L 6), .int .u64 (L 7)]
abbrev sxT (c : Cf) (g n cap : Nat) (T : Rv.Tb) : Array Value := sxC c g n cap (Rv.is T) (Rv.ln T)
theorem sx_one (c : Cf) (g n cap : Nat) (I : Nat → Bool) (L : Nat → Int) : (sxC c g n cap I L).all (·.oneCell') = true := by simp [sxC, Value.oneCell']
theorem info_sx : (Tryz.prog.info? SXT).map (·.size) = some 21 := by kernel_rfl
theorem info_rm : (Tryz.prog.info? 36).map (·.size) = some 1 := by kernel_rfl
theorem range_of {w : World} {b : Nat} {t : TypeId} {cs : Array Value} (h : CsAt w b t cs) (o : Nat) (vs : List Value) (hv : ∀ j, j < vs.length → cs[o + j]? = vs[j]?) : w.rangeAt b o vs := fun j v hj => by
  rw [h.cell (o + j), hv j (List.getElem?_eq_some_iff.1 hj).1, hj]
theorem sx_M {w : World} {b : Nat} {t : TypeId} {c : Cf} {g n cap : Nat} {I : Nat → Bool} {L : Nat → Int} (h : CsAt w b t (sxC c g n cap I L)) : w.rangeAt b 4 [.slice (some ⟨g, 0, none⟩) (64 * n) cap] :=
  range_of h 4 _ fun j hj => by
    obtain rfl : j = 0 := by simpa using hj
    rfl
abbrev zeroSx : Array Value := #[.int .i64 0, .int .i64 0, .int .i64 0, .int .i64 0, .slice none 0 0, .bool false, .bool false, .bool false, .bool false, .bool false, .bool false, .bool false, .bool false, .int .u64 0, .int .u64 0, .int .u64 0, .int .u64 0, .int .u64 0, .int .u64 0, .int .u64 0, .int .u64 0]
set_option maxHeartbeats 2000000 in
theorem rnew14_c (c : Cf) (hc : rightS c = true) (w : World) : Calls Tryz.prog 8 #[.agg (cfC c)] w fun e w' => ∃ g cap, e = .returned (.agg (sxT c g c.lines.toNat cap Rv.none_)) ∧ w.heap.size ≤ g ∧ RefAt w' g 5 c.lines.toNat (Rm.nought c.lines.toNat) ∧ Below w.heap.size w w' := by
  have hb := box_below w (cfC c) CFT
  have hz := box_below (w.alloc (.cells (cfC c) CFT)) zeroSx SXT
  have HB := Lib.hid (hb.trans (hz.mono hb.size))
  have HC := Lib.hid ((CsAt.new w CFT (cfC c)).low hz)
  have HZ := Lib.hid (show CsAt ((w.alloc (.cells (cfC c) CFT)).alloc (.cells zeroSx SXT)) (w.heap.size + 1) SXT zeroSx by simpa using CsAt.new (w.alloc (.cells (cfC c) CFT)) SXT zeroSx)
  have hcf := rightS_iff.1 hc
  have hl : ((c.lines.toNat : Nat) : Int) = c.lines := by omega
  have HNW := Lib.hid (fun W => rnew_c c.lines.toNat (by omega) (by omega) W)
  rw [hl] at HNW
  clear hb hz hl hcf hc
  go_enter Tryz.func8, Tryz.ntmps8
  go_upto_region 1 with fail
  generalize (w.alloc (.cells (cfC c) CFT)).alloc (.cells zeroSx SXT) = w1 at *
  refine wp_region_noPanic ?_
  refine wp_region_held (S := fun W => CsAt W w.heap.size CFT (cfC c) ∧ (∃ old, CsAt W (w.heap.size + 1) SXT old ∧ old.size = 21) ∧ Below w.heap.size w W) (by kernel_rfl) ?_
  have hS0 : CsAt w1.drew w.heap.size CFT (cfC c) ∧ (∃ old, CsAt w1.drew (w.heap.size + 1) SXT old ∧ old.size = 21) ∧ Below w.heap.size w w1.drew := ⟨HC.out.low (Below.refl _ _).drew, ⟨_, HZ.out.low (Below.refl _ _).drew, rfl⟩, HB.out.drew⟩
  refine takeH (fuel := 5) (i := 0) (.agg #[.int .i64 c.harts, .int .i64 c.stripes, .int .i64 c.lines, .int .i64 c.tlb]) ?_ rfl (by kernel_rfl) (by kernel_rfl) (by kernel_rfl) (fun _ _ _ h => h) (by kernel_rfl) (fun W hS => exec_load_row CFT _ rfl w.heap.size rfl CFT _ _ hS.1 Tryz.underlying26 rfl info_cf) hS0 ?_ ?_
  rotate_left 1
  · go_simp
    exact rfl
  refine takeH (fuel := 4) (i := 1) (.pointer (some ⟨w.heap.size, 2, none⟩)) ?_ rfl (by kernel_rfl) (by kernel_rfl) (by kernel_rfl) (fun _ _ _ h => h) (by kernel_rfl) (fun W hS => by go_simp) hS0 ?_ ?_
  rotate_left 1
  · go_simp
    exact rfl
  refine takeH (fuel := 3) (i := 2) (.int .i64 c.lines) ?_ rfl (by kernel_rfl) (by kernel_rfl) (by kernel_rfl) (fun _ _ _ h => h) (by kernel_rfl) (fun W hS => by have k1 : W.cell? ⟨w.heap.size, 2, none⟩ = some (.int .i64 c.lines) := hS.1.cell 2; go_simp) hS0 ?_ ?_
  rotate_left 1
  · go_simp
    exact rfl
  refine wpAnyH_all (fuel := 2) (rs := [3]) (by kernel_rfl) (by decide) ?_
  intro i hi
  obtain rfl : i = 3 := by simpa using hi
  refine wpOp_callX 24 #[.int .i64 c.lines] rfl (by kernel_rfl) (by go_simp) ?_
  refine (HNW.out w1.drew).mono ?_
  rintro e w2 ⟨g, cap, rfl, hg, hr, hb2⟩
  have hS1 : CsAt w2 w.heap.size CFT (cfC c) ∧ (∃ old, CsAt w2 (w.heap.size + 1) SXT old ∧ old.size = 21) ∧ Below w.heap.size w w2 := ⟨hS0.1.low hb2, hS0.2.1.imp fun _ h => ⟨h.1.low hb2, h.2⟩, hS0.2.2.trans (hb2.mono hS0.2.2.size)⟩
  have HR := Lib.hid hr
  have HG := Lib.hid (show w.heap.size + 1 < g by obtain ⟨_, h, -⟩ := hS0.2.1; have := h.lt; omega)
  clear hS0 hb2 hr hg HNW HB HC HZ
  unfold mV
  refine ⟨_, rfl, hS1, ?_⟩
  refine takeH (fuel := 1) (i := 4) (.agg (sxT c g c.lines.toNat cap Rv.none_)) ?_ rfl (by kernel_rfl) (by kernel_rfl) (by kernel_rfl) (fun _ _ _ h => h) (by kernel_rfl) (fun W hS => by go_simp; rfl) hS1 ?_ ?_
  rotate_left 1
  · go_simp
    exact rfl
  refine wpAnyH_all (fuel := 0) (rs := [5]) (by kernel_rfl) (by decide) ?_
  intro i hi
  obtain rfl : i = 5 := by simpa using hi
  obtain ⟨old, ho, hos⟩ := hS1.2.1
  refine wpOp_unitB (w2.setRow (w.heap.size + 1) (sxT c g c.lines.toNat cap Rv.none_)) ?_ rfl (by kernel_rfl) (exec_store_row SXT (.tmp 2) (.tmp 7) rfl (w.heap.size + 1) (sxT c g c.lines.toNat cap Rv.none_) rfl rfl SXT old ho info_sx hos (sx_one _ _ _ _ _ _)) ?_ ?_
  rotate_left 1
  · go_simp
    exact rfl
  have HZ2 := Lib.hid (ho.row (sxT c g c.lines.toNat cap Rv.none_))
  have HB2 := Lib.hid (below_setRow hS1.2.2 (show w.heap.size ≤ w.heap.size + 1 by omega) (sxT c g c.lines.toNat cap Rv.none_))
  have HR2 := Lib.hid (HR.out.only (row_only w2 (w.heap.size + 1) (sxT c g c.lines.toNat cap Rv.none_)) (by have := HG.out; omega))
  refine ⟨⟨hS1.1.rowFar (by omega) _, ⟨_, HZ2.out, rfl⟩, HB2.out⟩, ?_⟩
  generalize w2.setRow (w.heap.size + 1) (sxT c g c.lines.toNat cap Rv.none_) = w3 at *
  clear ho hos old
  clear hS1 HR
  refine wpAnyH_done (by kernel_rfl) ?_ _
  refine NoPanic.normal ?_
  go_wp2_with fail
  exact bodyPost_ret (results_cell_row Tryz.results8 _ _ (w.heap.size + 1) SXT (sxT c g c.lines.toNat cap Rv.none_) (0, 0) _ rfl HZ2.out Tryz.underlying43 rfl info_sx) rfl ⟨g, cap, rfl, by have := HG.out; omega, HR2.out, HB2.out⟩
end Go.Proofs.YtjeolfcefeglpabGreat
