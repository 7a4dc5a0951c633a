/-
  The reference of layer 14: put. The reference of layer 14: Do, plainly; what it does not do. The reference of layer 14: Do (stores, AMOs).
-/
import Derived.Test.YtjeolfcefeglpabGreatXbg
set_option maxRecDepth 20000
namespace Go.Proofs.YtjeolfcefeglpabGreat
open Go.ChangeShapes Go.WideShapes Go.ChangeAt Go.RowKit Wd

theorem sx_T {w : World} {b : Nat} {t : TypeId} {c : Cf} {g n cap : Nat} {T : Rv.Tb} (h : CsAt w b t (sxT c g n cap T)) : w.rangeAt b 5 (rT T).toList :=
  range_of h 5 _ fun j hj => by
    have hj : j < 16 := by simpa [rC] using hj
    have : j = 0 ∨ j = 1 ∨ j = 2 ∨ j = 3 ∨ j = 4 ∨ j = 5 ∨ j = 6 ∨ j = 7 ∨ j = 8 ∨ j = 9 ∨ j = 10 ∨ j = 11 ∨ j = 12 ∨ j = 13 ∨ j = 14 ∨ j = 15 := by omega
    rcases this with rfl | rfl | rfl | rfl | rfl | rfl | rfl | rfl | rfl | rfl | rfl | rfl | rfl | rfl | rfl | rfl
    all_goals rfl
theorem sx_there {w : World} {b : Nat} {t : TypeId} {c : Cf} {g n cap : Nat} {T : Rv.Tb} (h : CsAt w b t (sxT c g n cap T)) (o k : Nat) (hk : o + k ≤ 21) : w.there b o k := fun j hj => ⟨by
  rw [h.cell (o + j)]
  have : o + j < (sxT c g n cap T).size := by have e : (sxT c g n cap T).size = 21 := rfl; omega
  rw [Array.getElem?_eq_getElem this]
  rfl, h.frozen _⟩
def setL (cs : Array Value) : Nat → List Value → Array Value
  | _, [] => cs
  | o, v :: l => setL (cs.setIfInBounds o v) (o + 1) l
theorem setsAn {b : Nat} {t : TypeId} : ∀ (l : List Value) (o : Nat) (w : World) (cs : Array Value), CsAt w b t cs → CsAt (w.setCells b o l) b t (setL cs o l)
  | [], _, _, _, h => h
  | v :: l, o, w, cs, h => setsAn l (o + 1) (w.setCell ⟨b, o, none⟩ v) (cs.setIfInBounds o v) (setAn h o v)
theorem setL_T (c : Cf) (g n cap : Nat) (T T' : Rv.Tb) : setL (sxT c g n cap T) 5 (rT T').toList = sxT c g n cap T' := by kernel_rfl
theorem sx_setT {w : World} {b : Nat} {t : TypeId} {c : Cf} {g n cap : Nat} {T T' : Rv.Tb} (h : CsAt w b t (sxT c g n cap T)) : CsAt (w.setCells b 5 (rT T').toList) b t (sxT c g n cap T') := by
  rw [← setL_T c g n cap T T']
  exact setsAn _ 5 w _ h
theorem cells16_other {w : World} {b k : Nat} {T' : Rv.Tb} (hk : k ≠ b) : (w.setCells b 5 (rT T').toList).heap[k]? = w.heap[k]? := by
  have e : ∀ (l : List Value) (o : Nat) (w : World), (w.setCells b o l).heap[k]? = w.heap[k]? := by
    intro l
    induction l with
    | nil => intro o w; rfl
    | cons v l ih => intro o w; exact (ih (o + 1) _).trans (heap_setCell_other w ⟨b, o, none⟩ k v hk)
  exact e _ 5 w
theorem cells16_only {w : World} {b : Nat} {T' : Rv.Tb} : Only b w (w.setCells b 5 (rT T').toList) := by
  have e : ∀ (l : List Value) (o : Nat) (w : World), Only b w (w.setCells b o l) := by
    intro l
    induction l with
    | nil => intro o w; exact Only.refl b w
    | cons v l ih => intro o w; exact (Only.setCell (Only.refl b w) o v).trans (ih (o + 1) _)
  exact e _ 5 w
theorem only_late {b c : Nat} {w W W' : World} (h : Only b w W) (ho : Only c W W') (hc : w.heap.size ≤ c) : Only b w W' :=
  ⟨ho.os.trans h.os, ho.tape.trans h.tape, ho.output.trans h.output, Nat.le_trans h.size ho.size, fun k hk hne => (ho.block k (Nat.lt_of_lt_of_le hk h.size) (by omega)).trans (h.block k hk hne)⟩
/-- What stands while the reference lays a number: also the result's cell. -/
structure PsAt (w W : World) (c : Cf) (g n cap : Nat) (t : TypeId) (B : List Int) (T : Rv.Tb) (a : Ak) : Prop where
  s : RsAt w W c g n cap t B T a
  z : CsAt W (w.heap.size + 2) SXT zeroSx
section
variable {w W W' : World} {c : Cf} {g n cap : Nat} {t : TypeId} {B B' : List Int} {T T' : Rv.Tb} {a : Ak}
theorem PsAt.low (h : PsAt w W c g n cap t B T a) (hb : Below W.heap.size W W') : PsAt w W' c g n cap t B T a := ⟨h.s.low hb, h.z.low hb⟩
theorem PsAt.only (h : PsAt w W c g n cap t B T a) (hr : RefAt W' g t n B') (ho : Only g W W') : PsAt w W' c g n cap t B' T a := ⟨h.s.only hr ho, (ho.block _ h.z.lt (by have := h.s.lt; omega)).trans h.z⟩
theorem PsAt.setT (h : PsAt w W c g n cap t B T a) : PsAt w (W.setCells w.heap.size 5 (rT T').toList) c g n cap t B T' a :=
  ⟨⟨sx_setT h.s.x, ⟨(cells16_other (by omega)).trans h.s.ak.cs⟩, h.s.r.only cells16_only (by have := h.s.lt; omega), only_late h.s.o cells16_only (Nat.le_refl _), h.s.lt⟩, (cells16_other (by omega)).trans h.z⟩
theorem ps_new (hr : RefAt w g t n B) : PsAt w (((w.alloc (.cells (sxT c g n cap T) SXT)).alloc (.cells (akC a) AKT)).alloc (.cells zeroSx SXT)) c g n cap t B T a := by
  refine ⟨(rs_new hr).low (box_below _ _ _), ?_⟩
  have := CsAt.new ((w.alloc (.cells (sxT c g n cap T) SXT)).alloc (.cells (akC a) AKT)) SXT zeroSx
  simpa using this
end
theorem info_T16 : (Tryz.prog.info? XT).map (·.size) = some 16 := info_T
set_option maxHeartbeats 2000000 in
theorem rput14_c (a : Ak) (hf : Sh.Form a) (c : Cf) (g n cap : Nat) {t : TypeId} {B : List Int} (T : Rv.Tb) (hT : Rv.Ok T) (hart v : Int) (hv : 0 ≤ v ∧ v < 18446744073709551616) (w : World) (hr : RefAt w g t n B) :
    Calls Tryz.prog 47 #[.agg (sxT c g n cap T), .int .i64 hart, .agg (akC a), .int .u64 v] w fun e w' => e = .returned (.agg (sxT c g n cap (Sh.killA T a hart))) ∧ RefAt w' g t n (Sh.layA B n a v) ∧ Only g w w' := by
  have HP := Lib.hid (ps_new (c := c) (cap := cap) (T := T) (a := a) hr)
  obtain ⟨m, hm⟩ : ∃ m, a.size.toNat = m := ⟨_, rfl⟩
  have hsz := hf.sz
  rw [hm] at hsz
  have hms : a.size = (m : Int) := hsz.1.symm
  have hm8 := hsz.2.1
  have hct := hsz.2.2.2
  have HL := Lib.hid (show Sh.layA B n a v = Sh.layB B n a.addr a.next a.cut v m by unfold Sh.layA; rw [hm])
  have HK := Lib.hid (show Sh.killA T a hart = Sh.killB T a.addr a.next a.cut hart m by unfold Sh.killA; rw [hm])
  have HKO := Lib.hid (fun k => Sh.killB_ok hT a.addr a.next a.cut hart k)
  have HAC := Lib.hid (fun W => raccess_c a W)
  rw [HL.out, HK.out]
  have HMS := Lib.hid hms
  clear hr hf hm hsz HL HK hT hms
  go_enter Tryz.func47, Tryz.ntmps47
  go_upto_region 1 with fail
  generalize ((w.alloc (.cells (sxT c g n cap T) SXT)).alloc (.cells (akC a) AKT)).alloc (.cells zeroSx SXT) = w1 at *
  go_wp2_with fail
  go_loopw [3, 9] (fun vv iv wr => ∃ k : Nat, k ≤ m ∧ iv = .int .i64 (k : Int) ∧ vv = .int .u64 (v / 256 ^ k) ∧ PsAt w wr c g n cap t (Sh.layB B n a.addr a.next a.cut v k) (Sh.killB T a.addr a.next a.cut hart k) a) (fun _ iv _ => m - (intOf iv).toNat)
  case atStart => exact ⟨0, Nat.zero_le _, rfl, by simp, HP.out⟩
  case round =>
    obtain ⟨k, hk, rfl, rfl, hs⟩ := hrel
    have HS := Lib.hid hs
    clear hs HP
    have d4 := HS.out.s.ak.size
    rw [HMS.out] at d4
    by_cases hlt : k < m
    · have e0 : decide ((k : Int) < (m : Int)) = true := by simp; omega
      have HBY := Lib.hid (fun W => rbyte_c a.addr a.next a.cut a.size (k : Int) W (by omega) (by omega) (by omega))
      have hyr := Sp.byte_range a.addr a.next a.cut (k : Int)
      have HLY := Lib.hid (show Sh.layB B n a.addr a.next a.cut v (k + 1) = stV (Sh.layB B n a.addr a.next a.cut v k) n (Sp.byte a.addr a.next a.cut (k : Int)) 1 (v / 256 ^ k % 256) from rfl)
      have HKL := Lib.hid (show Sh.killB T a.addr a.next a.cut hart (k + 1) = Rv.kill (Sh.killB T a.addr a.next a.cut hart k) (Sp.byte a.addr a.next a.cut (k : Int) / 64) hart from rfl)
      have HKK := Lib.hid (HKO.out k)
      have HDV := Lib.hid (show v / 256 ^ k / 256 = v / 256 ^ (k + 1) by rw [Int.pow_succ, ← Int.ediv_ediv_of_nonneg (Int.le_of_lt (Int.pow_pos (by decide)))])
      have hy : 0 ≤ v / 256 ^ k ∧ v / 256 ^ k < 18446744073709551616 := ⟨Int.ediv_nonneg hv.1 (Int.le_of_lt (Int.pow_pos (by decide))), Int.lt_of_le_of_lt (Int.ediv_le_self _ hv.1) hv.2⟩
      generalize Sp.byte a.addr a.next a.cut (k : Int) = at_ at *
      generalize v / 256 ^ k = y at *
      generalize Sh.layB B n a.addr a.next a.cut v k = Bk at *
      generalize Sh.killB T a.addr a.next a.cut hart k = Tk at *
      have gk : (k : Int) < 9223372036854775807 := by omega
      go_wp2_with (refine wpList_load_row rfl AKT _ rfl (w.heap.size + 1) rfl AKT (akC a) (0, 0) _ HS.out.s.ak.cs Tryz.underlying58 rfl info_ak ?_)
      refine (HAC.out wr).mono ?_
      rintro e w2 ⟨rfl, hb2⟩
      have HS2 := Lib.hid (HS.out.low hb2)
      clear hb2 HS d4
      go_wp2_with fail
      refine (HBY.out w2).mono ?_
      rintro e w3 ⟨rfl, hb3⟩
      have HS3 := Lib.hid (HS2.out.low hb3)
      clear hb3 HS2
      have HM := Lib.hid (sx_M HS3.out.s.x)
      go_wp2_with (refine wpList_load_mid rfl RMT _ rfl w.heap.size 4 rfl [.slice (some ⟨g, 0, none⟩) (64 * n) cap] _ HM.out Tryz.underlying36 rfl info_rm ?_)
      refine (rstore_c cap HS3.out.s.r at_ 1 (y % 256) hyr (by omega) (by omega)).mono ?_
      rintro e w4 ⟨rfl, hr4, ho4⟩
      have HS4 := Lib.hid (HS3.out.only hr4 ho4)
      clear hr4 ho4 HS3 HM
      have HTR := Lib.hid (sx_T HS4.out.s.x)
      go_wp2_with (refine wpList_load_mid rfl XT _ rfl w.heap.size 5 rfl (rT Tk).toList _ HTR.out Tryz.underlying41 rfl (iT _ _) ?_)
      refine (xkill_c Tk HKK.out (at_ / 64) hart w4).mono ?_
      rintro e w5 ⟨rfl, hb5⟩
      have HS5 := Lib.hid (HS4.out.low hb5)
      clear hb5 HS4 HTR
      go_upto_region 8 with (refine wpList_storeNew (w0 := w5) rfl XT _ _ rfl (rT Rv.none_) (rT (Rv.kill Tk (at_ / 64) hart)) XT rfl rfl (iT _ _) rfl (rC_one _ _) ?_)
      have hb6 := box_below w5 (rT (Rv.kill Tk (at_ / 64) hart)) XT
      have HS6 := Lib.hid (HS5.out.low hb6)
      have HX6 := Lib.hid (CsAt.new w5 XT (rT (Rv.kill Tk (at_ / 64) hart)))
      clear hb6 HS5
      generalize w5.alloc (.cells (rT (Rv.kill Tk (at_ / 64) hart)) XT) = w6 at *
      have HTH := Lib.hid (sx_there HS6.out.s.x 5 16 (by omega))
      have HS7 := Lib.hid (HS6.out.setT (T' := Rv.kill Tk (at_ / 64) hart))
      go_upto_region 3 with (first | (refine wpList_load_row rfl XT _ rfl w5.heap.size rfl XT (rT (Rv.kill Tk (at_ / 64) hart)) (0, 0) _ HX6.out Tryz.underlying41 rfl (iT _ _) ?_) | (refine wpList_store_mid rfl XT _ _ rfl w.heap.size 5 (rT (Rv.kill Tk (at_ / 64) hart)) rfl rfl (by exact HTH.out) (iT _ _) (rC_one _ _) ?_))
      clear HS6 HX6 HTH
      generalize w6.setCells w.heap.size 5 (rT (Rv.kill Tk (at_ / 64) hart)).toList = w7 at *
      go_wp2_with fail
      go_roundw
      case rel => exact ⟨k + 1, by omega, by go_num, by rw [← HDV.out], by rw [HLY.out, HKL.out]; exact HS7.out⟩
      case measure => simp [intOf]; omega
    · obtain rfl : k = m := by omega
      have e0 : decide ((k : Int) < (k : Int)) = false := by simp
      go_wp2_with (first | (refine wpList_load_row rfl SXT _ rfl w.heap.size rfl SXT (sxT c g n cap (Sh.killB T a.addr a.next a.cut hart k)) (0, 0) _ HS.out.s.x Tryz.underlying43 rfl info_sx ?_) | (refine wpList_store_row rfl SXT _ _ rfl (w.heap.size + 2) (sxT c g n cap (Sh.killB T a.addr a.next a.cut hart k)) rfl rfl SXT zeroSx HS.out.z info_sx rfl (sx_one _ _ _ _ _ _) ?_))
      have hlt2 := HS.out.s.lt
      exact bodyPost_ret (results_cell_row Tryz.results47 _ _ (w.heap.size + 2) SXT (sxT c g n cap (Sh.killB T a.addr a.next a.cut hart k)) (0, 0) _ rfl (HS.out.z.row _) Tryz.underlying43 rfl info_sx) rfl ⟨rfl, HS.out.s.r.only (b := w.heap.size + 2) (row_only _ _ _) (by omega), only_late (c := w.heap.size + 2) HS.out.s.o (row_only _ _ _) (by omega)⟩
end Go.Proofs.YtjeolfcefeglpabGreat
set_option maxRecDepth 20000
namespace Go.Proofs.YtjeolfcefeglpabGreat
open Go.ChangeShapes Go.WideShapes Go.ChangeAt Go.RowKit Wd

namespace Sh
section
variable {B : List Int} {N : Nat} {T : Rv.Tb} {h : Int} {a : Ak}
theorem do_3 (hk : a.kind = 3) : ansD B N a = 0 ∧ ansG B N T h a = false ∧ doB B N T h a = layA B N a a.data ∧ doT B N T h a = killA T a h := by
  have g : ansG B N T h a = false := by unfold ansG; simp [hk]
  refine ⟨by unfold ansD; simp [hk], g, ?_, ?_⟩
  · unfold doB laidV; rw [g]; simp [wrB, hk]
  · unfold doT midT; rw [g]; simp [wrB, hk]
theorem do_4 (hk : a.kind = 4) : ansD B N a = nB B N a ∧ ansG B N T h a = false ∧ doB B N T h a = layA B N a (amoV a.op (nB B N a) a.data) ∧ doT B N T h a = killA T a h := by
  have g : ansG B N T h a = false := by unfold ansG; simp [hk]
  refine ⟨by unfold ansD; simp [hk], g, ?_, ?_⟩
  · unfold doB laidV; rw [g]; simp [wrB, hk]
  · unfold doT midT; rw [g]; simp [wrB, hk]
theorem do_5 (hk : a.kind = 5) : ansD B N a = nB B N a ∧ ansG B N T h a = false ∧ doB B N T h a = B ∧ doT B N T h a = Rv.set T h (a.addr / 64) := by
  have g : ansG B N T h a = false := by unfold ansG; simp [hk]
  refine ⟨by unfold ansD; simp [hk], g, ?_, ?_⟩
  · unfold doB; rw [g]; simp [wrB, hk]
  · unfold doT midT; rw [g]; simp [wrB, hk]
theorem do_6y (hk : a.kind = 6) (hg : (a.live && Rv.has T h (a.addr / 64)) = true) : ansD B N a = 0 ∧ ansG B N T h a = true ∧ doB B N T h a = layA B N a a.data ∧ doT B N T h a = Rv.clr (killA T a h) h := by
  have g : ansG B N T h a = true := by unfold ansG; rw [if_pos hk, hg]
  refine ⟨by unfold ansD; simp [hk], g, ?_, ?_⟩
  · unfold doB laidV; rw [g]; simp [wrB, hk]
  · unfold doT midT
    rw [g]
    simp only [wrB, hk]
    exact killB_clr T a.addr a.next a.cut h a.size.toNat
theorem do_6n (hk : a.kind = 6) (hg : (a.live && Rv.has T h (a.addr / 64)) = false) : ansD B N a = 0 ∧ ansG B N T h a = false ∧ doB B N T h a = B ∧ doT B N T h a = Rv.clr T h := by
  have g : ansG B N T h a = false := by unfold ansG; rw [if_pos hk, hg]
  refine ⟨by unfold ansD; simp [hk], g, ?_, ?_⟩
  · unfold doB; rw [g]; simp [wrB, hk]
  · unfold doT midT; rw [g]; simp [wrB, hk]
theorem do_8y (hk : a.kind = 8) (hg : (nB B N a == a.old) = true) : ansD B N a = nB B N a ∧ ansG B N T h a = true ∧ doB B N T h a = layA B N a a.data ∧ doT B N T h a = killA T a h := by
  have g : ansG B N T h a = true := by unfold ansG; rw [if_neg (by omega), if_pos hk, hg]
  refine ⟨by unfold ansD; simp [hk], g, ?_, ?_⟩
  · unfold doB laidV; rw [g]; simp [wrB, hk]
  · unfold doT midT; rw [g]; simp [wrB, hk]
theorem do_8n (hk : a.kind = 8) (hg : (nB B N a == a.old) = false) : ansD B N a = nB B N a ∧ ansG B N T h a = false ∧ doB B N T h a = B ∧ doT B N T h a = T := by
  have g : ansG B N T h a = false := by unfold ansG; rw [if_neg (by omega), if_pos hk, hg]
  refine ⟨by unfold ansD; simp [hk], g, ?_, ?_⟩
  · unfold doB; rw [g]; simp [wrB, hk]
  · unfold doT midT; rw [g]; simp [wrB, hk]
theorem do_127 (hk : a.kind = 1 ∨ a.kind = 2 ∨ a.kind = 7) : ansD B N a = nB B N a ∧ ansG B N T h a = false ∧ doB B N T h a = B ∧ doT B N T h a = T := by
  have g : ansG B N T h a = false := by unfold ansG; rw [if_neg (by omega), if_neg (by omega)]
  refine ⟨by unfold ansD; rw [if_neg (by omega)], g, ?_, ?_⟩
  · unfold doB; rw [g]; rcases hk with hk | hk | hk <;> simp [wrB, hk]
  · unfold doT midT; rw [g]; rcases hk with hk | hk | hk <;> simp [wrB, hk]
theorem okD_iff {N : Nat} {harts hart : Int} {a : Ak} : okD N harts hart a = true ↔ mayB N a = true ∧ 0 ≤ hart ∧ hart < harts := by
  unfold okD btwB
  simp only [Bool.and_eq_true, decide_eq_true_eq]
  constructor
  · rintro ⟨h1, h2, h3⟩; exact ⟨h1, h2, by omega⟩
  · rintro ⟨h1, h2, h3⟩; exact ⟨h1, h2, by omega⟩
end
end Sh
theorem results_sa {F : Func} {x y z : Tmp} (hF : F.results = #[.cell x SXT, .cell y ANT, .tmp z]) (tmps : Array Value) (w : World) (b d : Nat) (cs az : Array Value) (r : Value) (h2 : tmps.getD x undef = .pointer (some ⟨b, 0, none⟩)) (h3 : tmps.getD y undef = .pointer (some ⟨d, 0, none⟩)) (h4 : tmps.getD z undef = r)
    (hb : CsAt w b SXT cs) (hd : CsAt w d ANT az) (h1 : cs.size = 21) (h5 : az.size = 42) :
    (results F tmps).run Tryz.prog w = .ok (.tuple #[.agg cs, .agg az, r]) w := by
  have h2' : tmps[x]?.getD undef = .pointer (some ⟨b, 0, none⟩) := by simpa using h2
  have h3' : tmps[y]?.getD undef = .pointer (some ⟨d, 0, none⟩) := by simpa using h3
  have h4' : tmps[z]?.getD undef = r := by simpa using h4
  have l1 := run_loadVar_row w b SXT SXT cs (0, 0) _ hb Tryz.underlying43 rfl (by rw [h1]; exact info_sx)
  have l2 := run_loadVar_row w d ANT ANT az (0, 0) _ hd Tryz.underlying66 rfl (by rw [h5]; exact info_an)
  simp [results, hF, h2', h3', h4', asAddr, l1, l2]
/-- What stands while the reference does an ask. -/
structure DsAt (w W : World) (c : Cf) (g n cap : Nat) (t : TypeId) (B : List Int) (T : Rv.Tb) (a : Ak) : Prop where
  s : RsAt w W c g n cap t B T a
  z : CsAt W (w.heap.size + 2) SXT zeroSx
  y : CsAt W (w.heap.size + 3) ANT (anC 0 false)
section
variable {w W W' : World} {c : Cf} {g n cap : Nat} {t : TypeId} {B B' : List Int} {T T' : Rv.Tb} {a : Ak}
theorem DsAt.low (h : DsAt w W c g n cap t B T a) (hb : Below W.heap.size W W') : DsAt w W' c g n cap t B T a := ⟨h.s.low hb, h.z.low hb, h.y.low hb⟩
theorem DsAt.only (h : DsAt w W c g n cap t B T a) (hr : RefAt W' g t n B') (ho : Only g W W') : DsAt w W' c g n cap t B' T a :=
  ⟨h.s.only hr ho, (ho.block _ h.z.lt (by have := h.s.lt; omega)).trans h.z, (ho.block _ h.y.lt (by have := h.s.lt; omega)).trans h.y⟩
theorem DsAt.setT (h : DsAt w W c g n cap t B T a) : DsAt w (W.setCells w.heap.size 5 (rT T').toList) c g n cap t B T' a :=
  ⟨⟨sx_setT h.s.x, ⟨(cells16_other (by omega)).trans h.s.ak.cs⟩, h.s.r.only cells16_only (by have := h.s.lt; omega), only_late h.s.o cells16_only (Nat.le_refl _), h.s.lt⟩, (cells16_other (by omega)).trans h.z, (cells16_other (by omega)).trans h.y⟩
theorem DsAt.setS (h : DsAt w W c g n cap t B T a) : DsAt w (W.setRow w.heap.size (sxT c g n cap T')) c g n cap t B T' a :=
  ⟨⟨h.s.x.row _, ⟨h.s.ak.cs.rowFar (by omega) _⟩, h.s.r.only (b := w.heap.size) (row_only _ _ _) (by have := h.s.lt; omega), only_late (c := w.heap.size) h.s.o (row_only _ _ _) (Nat.le_refl _), h.s.lt⟩, h.z.rowFar (by omega) _, h.y.rowFar (by omega) _⟩
theorem ds_new (hr : RefAt w g t n B) : DsAt w ((((w.alloc (.cells (sxT c g n cap T) SXT)).alloc (.cells (akC a) AKT)).alloc (.cells zeroSx SXT)).alloc (.cells (anC 0 false) ANT)) c g n cap t B T a := by
  have h := ps_new (c := c) (cap := cap) (T := T) (a := a) hr
  refine ⟨h.s.low (box_below _ _ _), h.z.low (box_below _ _ _), ?_⟩
  have := CsAt.new (((w.alloc (.cells (sxT c g n cap T) SXT)).alloc (.cells (akC a) AKT)).alloc (.cells zeroSx SXT)) ANT (anC 0 false)
  simpa using this
/-- Both results are laid. -/
theorem DsAt.out (h : DsAt w W c g n cap t B T a) (cs az : Array Value) : CsAt ((W.setRow (w.heap.size + 2) cs).setRow (w.heap.size + 3) az) (w.heap.size + 2) SXT cs ∧ CsAt ((W.setRow (w.heap.size + 2) cs).setRow (w.heap.size + 3) az) (w.heap.size + 3) ANT az ∧
    RefAt ((W.setRow (w.heap.size + 2) cs).setRow (w.heap.size + 3) az) g t n B ∧ Only g w ((W.setRow (w.heap.size + 2) cs).setRow (w.heap.size + 3) az) := by
  have hl := h.s.lt
  exact ⟨(h.z.row cs).rowFar (by omega) _, (h.y.rowFar (by omega) cs).row az, (h.s.r.only (b := w.heap.size + 2) (row_only _ _ _) (by omega)).only (b := w.heap.size + 3) (row_only _ _ _) (by omega),
    only_late (c := w.heap.size + 3) (only_late (c := w.heap.size + 2) h.s.o (row_only _ _ _) (by omega)) (row_only _ _ _) (by omega)⟩
end
set_option maxHeartbeats 2000000 in
theorem rdo14_no (a : Ak) (ha : a.In) (c : Cf) (g n cap : Nat) {t : TypeId} {B : List Int} (T : Rv.Tb) (_hT : Rv.Ok T) (hart : Int) (w : World) (hr : RefAt w g t n B) (hn : Sh.okD n c.harts hart a = false) :
    Calls Tryz.prog 15 #[.agg (sxT c g n cap T), .int .i64 hart, .agg (akC a)] w fun e w' => e = .returned (.tuple #[.agg (sxT c g n cap T), .agg (anC 0 false), .bool false]) ∧ RefAt w' g t n (B) ∧ Only g w w' := by
  have HD := Lib.hid (ds_new (c := c) (cap := cap) (T := T) (a := a) hr)
  have HM := Lib.hid (fun W => rmay14_c a ha c g n cap hr.n1 (Rv.is T) (Rv.ln T) W)
  have HN := Lib.hid (show ¬ (Sh.mayB n a = true ∧ 0 ≤ hart ∧ hart < c.harts) from fun h => by rw [Sh.okD_iff.2 h] at hn; cases hn)
  clear hr ha hn
  generalize Sh.mayB n a = mv at *
  cases mv with
  | false =>
    go_enter Tryz.func15, Tryz.ntmps15
    go_upto_region 1 with fail
    rw [zero_an]
    generalize (((w.alloc (.cells (sxT c g n cap T) SXT)).alloc (.cells (akC a) AKT)).alloc (.cells zeroSx SXT)).alloc (.cells (anC 0 false) ANT) = w1 at *
    have dh : w1.cell? ⟨w.heap.size, 0, none⟩ = some (.int .i64 c.harts) := HD.out.s.x.cell 0
    go_wp2_with (first | (refine wpList_load_row rfl SXT _ rfl w.heap.size rfl SXT (sxT c g n cap (T)) (0, 0) _ HD.out.s.x Tryz.underlying43 rfl info_sx ?_) | (refine wpList_load_row rfl AKT _ rfl (w.heap.size + 1) rfl AKT (akC a) (0, 0) _ HD.out.s.ak.cs Tryz.underlying58 rfl info_ak ?_))
    refine (HM.out w1).mono ?_
    rintro e w2 ⟨rfl, hb2⟩
    have HD2 := Lib.hid (HD.out.low hb2)
    have dh := HD2.out.s.x.cell 0
    replace dh : w2.cell? ⟨w.heap.size, 0, none⟩ = some (.int .i64 c.harts) := dh
    clear hb2 HD HM
    have hlt := HD2.out.s.lt
    go_wp2_with (first | (refine wpList_load_row rfl SXT _ rfl w.heap.size rfl SXT (sxT c g n cap (T)) (0, 0) _ HD2.out.s.x Tryz.underlying43 rfl info_sx ?_) | (refine wpList_load_row rfl AKT _ rfl (w.heap.size + 1) rfl AKT (akC a) (0, 0) _ HD2.out.s.ak.cs Tryz.underlying58 rfl info_ak ?_) | (refine wpList_store_row rfl SXT _ _ rfl (w.heap.size + 2) (sxT c g n cap (T)) rfl rfl SXT zeroSx HD2.out.z info_sx rfl (sx_one _ _ _ _ _ _) ?_) | (refine wpList_store_row rfl ANT _ _ rfl (w.heap.size + 3) (anC (0) false) rfl rfl ANT (anC 0 false) (HD2.out.y.rowFar (c := w.heap.size + 2) (by omega) (sxT c g n cap (T))) info_an rfl (anC_one _ _) ?_))
    exact bodyPost_ret (results_sa Tryz.results15 _ _ (w.heap.size + 2) (w.heap.size + 3) (sxT c g n cap (T)) (anC (0) false) _ rfl rfl rfl (HD2.out.out _ _).1 (HD2.out.out _ _).2.1 rfl rfl) rfl ⟨rfl, (HD2.out.out _ _).2.2.1, (HD2.out.out _ _).2.2.2⟩
  | true =>
    by_cases h0 : hart < 0
    · have g0 : decide (hart < 0) = true := by simpa using h0
      go_enter Tryz.func15, Tryz.ntmps15
      go_upto_region 1 with fail
      rw [zero_an]
      generalize (((w.alloc (.cells (sxT c g n cap T) SXT)).alloc (.cells (akC a) AKT)).alloc (.cells zeroSx SXT)).alloc (.cells (anC 0 false) ANT) = w1 at *
      have dh : w1.cell? ⟨w.heap.size, 0, none⟩ = some (.int .i64 c.harts) := HD.out.s.x.cell 0
      go_wp2_with (first | (refine wpList_load_row rfl SXT _ rfl w.heap.size rfl SXT (sxT c g n cap (T)) (0, 0) _ HD.out.s.x Tryz.underlying43 rfl info_sx ?_) | (refine wpList_load_row rfl AKT _ rfl (w.heap.size + 1) rfl AKT (akC a) (0, 0) _ HD.out.s.ak.cs Tryz.underlying58 rfl info_ak ?_))
      refine (HM.out w1).mono ?_
      rintro e w2 ⟨rfl, hb2⟩
      have HD2 := Lib.hid (HD.out.low hb2)
      have dh := HD2.out.s.x.cell 0
      replace dh : w2.cell? ⟨w.heap.size, 0, none⟩ = some (.int .i64 c.harts) := dh
      clear hb2 HD HM
      have hlt := HD2.out.s.lt
      go_wp2_with (first | (refine wpList_load_row rfl SXT _ rfl w.heap.size rfl SXT (sxT c g n cap (T)) (0, 0) _ HD2.out.s.x Tryz.underlying43 rfl info_sx ?_) | (refine wpList_load_row rfl AKT _ rfl (w.heap.size + 1) rfl AKT (akC a) (0, 0) _ HD2.out.s.ak.cs Tryz.underlying58 rfl info_ak ?_) | (refine wpList_store_row rfl SXT _ _ rfl (w.heap.size + 2) (sxT c g n cap (T)) rfl rfl SXT zeroSx HD2.out.z info_sx rfl (sx_one _ _ _ _ _ _) ?_) | (refine wpList_store_row rfl ANT _ _ rfl (w.heap.size + 3) (anC (0) false) rfl rfl ANT (anC 0 false) (HD2.out.y.rowFar (c := w.heap.size + 2) (by omega) (sxT c g n cap (T))) info_an rfl (anC_one _ _) ?_))
      exact bodyPost_ret (results_sa Tryz.results15 _ _ (w.heap.size + 2) (w.heap.size + 3) (sxT c g n cap (T)) (anC (0) false) _ rfl rfl rfl (HD2.out.out _ _).1 (HD2.out.out _ _).2.1 rfl rfl) rfl ⟨rfl, (HD2.out.out _ _).2.2.1, (HD2.out.out _ _).2.2.2⟩
    · have g0 : decide (hart < 0) = false := by simpa using h0
      have g1 : decide (hart ≥ c.harts) = true := by
        have := HN.out
        simp
        apply Int.not_lt.1
        intro h
        exact this ⟨rfl, by omega, h⟩
      go_enter Tryz.func15, Tryz.ntmps15
      go_upto_region 1 with fail
      rw [zero_an]
      generalize (((w.alloc (.cells (sxT c g n cap T) SXT)).alloc (.cells (akC a) AKT)).alloc (.cells zeroSx SXT)).alloc (.cells (anC 0 false) ANT) = w1 at *
      have dh : w1.cell? ⟨w.heap.size, 0, none⟩ = some (.int .i64 c.harts) := HD.out.s.x.cell 0
      go_wp2_with (first | (refine wpList_load_row rfl SXT _ rfl w.heap.size rfl SXT (sxT c g n cap (T)) (0, 0) _ HD.out.s.x Tryz.underlying43 rfl info_sx ?_) | (refine wpList_load_row rfl AKT _ rfl (w.heap.size + 1) rfl AKT (akC a) (0, 0) _ HD.out.s.ak.cs Tryz.underlying58 rfl info_ak ?_))
      refine (HM.out w1).mono ?_
      rintro e w2 ⟨rfl, hb2⟩
      have HD2 := Lib.hid (HD.out.low hb2)
      have dh := HD2.out.s.x.cell 0
      replace dh : w2.cell? ⟨w.heap.size, 0, none⟩ = some (.int .i64 c.harts) := dh
      clear hb2 HD HM
      have hlt := HD2.out.s.lt
      go_wp2_with (first | (refine wpList_load_row rfl SXT _ rfl w.heap.size rfl SXT (sxT c g n cap (T)) (0, 0) _ HD2.out.s.x Tryz.underlying43 rfl info_sx ?_) | (refine wpList_load_row rfl AKT _ rfl (w.heap.size + 1) rfl AKT (akC a) (0, 0) _ HD2.out.s.ak.cs Tryz.underlying58 rfl info_ak ?_) | (refine wpList_store_row rfl SXT _ _ rfl (w.heap.size + 2) (sxT c g n cap (T)) rfl rfl SXT zeroSx HD2.out.z info_sx rfl (sx_one _ _ _ _ _ _) ?_) | (refine wpList_store_row rfl ANT _ _ rfl (w.heap.size + 3) (anC (0) false) rfl rfl ANT (anC 0 false) (HD2.out.y.rowFar (c := w.heap.size + 2) (by omega) (sxT c g n cap (T))) info_an rfl (anC_one _ _) ?_))
      exact bodyPost_ret (results_sa Tryz.results15 _ _ (w.heap.size + 2) (w.heap.size + 3) (sxT c g n cap (T)) (anC (0) false) _ rfl rfl rfl (HD2.out.out _ _).1 (HD2.out.out _ _).2.1 rfl rfl) rfl ⟨rfl, (HD2.out.out _ _).2.2.1, (HD2.out.out _ _).2.2.2⟩
end Go.Proofs.YtjeolfcefeglpabGreat
set_option maxRecDepth 20000
namespace Go.Proofs.YtjeolfcefeglpabGreat
open Go.ChangeShapes Go.WideShapes Go.ChangeAt Go.RowKit Wd

set_option maxHeartbeats 2000000 in
theorem rdo14_3 (a : Ak) (ha : a.In) (c : Cf) (g n cap : Nat) {t : TypeId} {B : List Int} (T : Rv.Tb) (hT : Rv.Ok T) (hart : Int) (w : World) (hr : RefAt w g t n B) (hok : Sh.okD n c.harts hart a = true) (hk : a.kind = 3) :
    Calls Tryz.prog 15 #[.agg (sxT c g n cap T), .int .i64 hart, .agg (akC a)] w fun e w' => e = .returned (.tuple #[.agg (sxT c g n cap (Sh.killA T a hart)), .agg (anC 0 false), .bool true]) ∧ RefAt w' g t n (Sh.layA B n a a.data) ∧ Only g w w' := by
  have HD := Lib.hid (ds_new (c := c) (cap := cap) (T := T) (a := a) hr)
  have HM := Lib.hid (fun W => rmay14_c a ha c g n cap hr.n1 (Rv.is T) (Rv.ln T) W)
  obtain ⟨hmay, h0, h1⟩ := Sh.okD_iff.1 hok
  have HF := Lib.hid (Sh.may_form hmay)
  have HNW := Lib.hid (Sh.nB_word hr.ok HF.out)
  rw [hmay] at HM
  have g0 : decide (hart < 0) = false := by simp; omega
  have g1 : decide (hart ≥ c.harts) = false := by simp; omega
  have HG := Lib.hid (fun W (h : RefAt W g t n B) => rget14_c a HF.out c g n cap T W h)
  have HT := Lib.hid hT
  have had := ha.data
  have haa := ha.addr
  have HRO := Lib.hid hr.ok
  clear hr hok hmay hT ha
  obtain ⟨x, hx⟩ : ∃ x, Sh.nB B n a = x := ⟨_, rfl⟩
  rw [hx] at HG HNW
  have HXE := Lib.hid hx
  clear hx
  go_enter Tryz.func15, Tryz.ntmps15
  go_upto_region 1 with fail
  rw [zero_an]
  generalize (((w.alloc (.cells (sxT c g n cap T) SXT)).alloc (.cells (akC a) AKT)).alloc (.cells zeroSx SXT)).alloc (.cells (anC 0 false) ANT) = w1 at *
  have dh : w1.cell? ⟨w.heap.size, 0, none⟩ = some (.int .i64 c.harts) := HD.out.s.x.cell 0
  go_wp2_with (first | (refine wpList_load_row rfl SXT _ rfl w.heap.size rfl SXT (sxT c g n cap (T)) (0, 0) _ HD.out.s.x Tryz.underlying43 rfl info_sx ?_) | (refine wpList_load_row rfl AKT _ rfl (w.heap.size + 1) rfl AKT (akC a) (0, 0) _ HD.out.s.ak.cs Tryz.underlying58 rfl info_ak ?_))
  refine (HM.out w1).mono ?_
  rintro e w2 ⟨rfl, hb2⟩
  have HD2 := Lib.hid (HD.out.low hb2)
  have dh := HD2.out.s.x.cell 0
  replace dh : w2.cell? ⟨w.heap.size, 0, none⟩ = some (.int .i64 c.harts) := dh
  clear hb2 HD HM
  go_wp2_with (first | (refine wpList_load_row rfl SXT _ rfl w.heap.size rfl SXT (sxT c g n cap (T)) (0, 0) _ HD2.out.s.x Tryz.underlying43 rfl info_sx ?_) | (refine wpList_load_row rfl AKT _ rfl (w.heap.size + 1) rfl AKT (akC a) (0, 0) _ HD2.out.s.ak.cs Tryz.underlying58 rfl info_ak ?_))
  refine (HG.out w2 HD2.out.s.r).mono ?_
  rintro e w3 ⟨rfl, hb3⟩
  have HD3 := Lib.hid (HD2.out.low hb3)
  clear hb3 HD2 dh
  have dk := HD3.out.s.ak.kind
  rw [hk] at dk
  have hlt := HD3.out.s.lt
  have dd := HD3.out.s.ak.data
  go_wp2_with (first | (refine wpList_load_row rfl SXT _ rfl w.heap.size rfl SXT (sxT c g n cap (T)) (0, 0) _ HD3.out.s.x Tryz.underlying43 rfl info_sx ?_) | (refine wpList_load_row rfl AKT _ rfl (w.heap.size + 1) rfl AKT (akC a) (0, 0) _ HD3.out.s.ak.cs Tryz.underlying58 rfl info_ak ?_))
  refine (rput14_c a HF.out c g n cap (T) HT.out hart a.data ⟨had.1, by omega⟩ w3 HD3.out.s.r).mono ?_
  rintro e w4 ⟨rfl, hr9, ho9⟩
  have HD4 := Lib.hid (HD3.out.only hr9 ho9)
  clear hr9 ho9
  clear HD3 dk dd
  go_wp2_with (first | (refine wpList_store_row rfl SXT _ _ rfl (w.heap.size + 2) (sxT c g n cap (Sh.killA T a hart)) rfl rfl SXT zeroSx HD4.out.z info_sx rfl (sx_one _ _ _ _ _ _) ?_) | (refine wpList_store_row rfl ANT _ _ rfl (w.heap.size + 3) (anC (0) false) rfl rfl ANT (anC 0 false) (HD4.out.y.rowFar (c := w.heap.size + 2) (by omega) (sxT c g n cap (Sh.killA T a hart))) info_an rfl (anC_one _ _) ?_))
  exact bodyPost_ret (results_sa Tryz.results15 _ _ (w.heap.size + 2) (w.heap.size + 3) (sxT c g n cap (Sh.killA T a hart)) (anC (0) false) _ rfl rfl rfl (HD4.out.out _ _).1 (HD4.out.out _ _).2.1 rfl rfl) rfl ⟨rfl, (HD4.out.out _ _).2.2.1, (HD4.out.out _ _).2.2.2⟩
set_option maxHeartbeats 2000000 in
theorem rdo14_4 (a : Ak) (ha : a.In) (c : Cf) (g n cap : Nat) {t : TypeId} {B : List Int} (T : Rv.Tb) (hT : Rv.Ok T) (hart : Int) (w : World) (hr : RefAt w g t n B) (hok : Sh.okD n c.harts hart a = true) (hk : a.kind = 4) :
    Calls Tryz.prog 15 #[.agg (sxT c g n cap T), .int .i64 hart, .agg (akC a)] w fun e w' => e = .returned (.tuple #[.agg (sxT c g n cap (Sh.killA T a hart)), .agg (anC (Sh.nB B n a) false), .bool true]) ∧ RefAt w' g t n (Sh.layA B n a (amoV a.op (Sh.nB B n a) a.data)) ∧ Only g w w' := by
  have HD := Lib.hid (ds_new (c := c) (cap := cap) (T := T) (a := a) hr)
  have HM := Lib.hid (fun W => rmay14_c a ha c g n cap hr.n1 (Rv.is T) (Rv.ln T) W)
  obtain ⟨hmay, h0, h1⟩ := Sh.okD_iff.1 hok
  have HF := Lib.hid (Sh.may_form hmay)
  have HNW := Lib.hid (Sh.nB_word hr.ok HF.out)
  rw [hmay] at HM
  have g0 : decide (hart < 0) = false := by simp; omega
  have g1 : decide (hart ≥ c.harts) = false := by simp; omega
  have HG := Lib.hid (fun W (h : RefAt W g t n B) => rget14_c a HF.out c g n cap T W h)
  have HT := Lib.hid hT
  have had := ha.data
  have haa := ha.addr
  have HRO := Lib.hid hr.ok
  have HAM := Lib.hid (amo_fit a.op (Sh.nB B n a) a.data HNW.out.1 HNW.out.2 had.1 (by omega))
  clear hr hok hmay hT ha
  obtain ⟨x, hx⟩ : ∃ x, Sh.nB B n a = x := ⟨_, rfl⟩
  rw [hx] at HG HNW HAM ⊢
  have HXE := Lib.hid hx
  clear hx
  go_enter Tryz.func15, Tryz.ntmps15
  go_upto_region 1 with fail
  rw [zero_an]
  generalize (((w.alloc (.cells (sxT c g n cap T) SXT)).alloc (.cells (akC a) AKT)).alloc (.cells zeroSx SXT)).alloc (.cells (anC 0 false) ANT) = w1 at *
  have dh : w1.cell? ⟨w.heap.size, 0, none⟩ = some (.int .i64 c.harts) := HD.out.s.x.cell 0
  go_wp2_with (first | (refine wpList_load_row rfl SXT _ rfl w.heap.size rfl SXT (sxT c g n cap (T)) (0, 0) _ HD.out.s.x Tryz.underlying43 rfl info_sx ?_) | (refine wpList_load_row rfl AKT _ rfl (w.heap.size + 1) rfl AKT (akC a) (0, 0) _ HD.out.s.ak.cs Tryz.underlying58 rfl info_ak ?_))
  refine (HM.out w1).mono ?_
  rintro e w2 ⟨rfl, hb2⟩
  have HD2 := Lib.hid (HD.out.low hb2)
  have dh := HD2.out.s.x.cell 0
  replace dh : w2.cell? ⟨w.heap.size, 0, none⟩ = some (.int .i64 c.harts) := dh
  clear hb2 HD HM
  go_wp2_with (first | (refine wpList_load_row rfl SXT _ rfl w.heap.size rfl SXT (sxT c g n cap (T)) (0, 0) _ HD2.out.s.x Tryz.underlying43 rfl info_sx ?_) | (refine wpList_load_row rfl AKT _ rfl (w.heap.size + 1) rfl AKT (akC a) (0, 0) _ HD2.out.s.ak.cs Tryz.underlying58 rfl info_ak ?_))
  refine (HG.out w2 HD2.out.s.r).mono ?_
  rintro e w3 ⟨rfl, hb3⟩
  have HD3 := Lib.hid (HD2.out.low hb3)
  clear hb3 HD2 dh
  have dk := HD3.out.s.ak.kind
  rw [hk] at dk
  have hlt := HD3.out.s.lt
  have dd := HD3.out.s.ak.data
  have dop := HD3.out.s.ak.op
  have HAV := Lib.hid HAM.out.2.2
  go_wp2_with fail
  refine (HAM.out.2.1 w3).mono ?_
  rintro e w4 ⟨rfl, hb4⟩
  have HD4 := Lib.hid (HD3.out.low hb4)
  clear hb4 HD3 dk dd dop HAM
  go_wp2_with (first | (refine wpList_load_row rfl SXT _ rfl w.heap.size rfl SXT (sxT c g n cap (T)) (0, 0) _ HD4.out.s.x Tryz.underlying43 rfl info_sx ?_) | (refine wpList_load_row rfl AKT _ rfl (w.heap.size + 1) rfl AKT (akC a) (0, 0) _ HD4.out.s.ak.cs Tryz.underlying58 rfl info_ak ?_))
  refine (rput14_c a HF.out c g n cap (T) HT.out hart (amoV a.op x a.data) HAV.out w4 HD4.out.s.r).mono ?_
  rintro e w5 ⟨rfl, hr9, ho9⟩
  have HD5 := Lib.hid (HD4.out.only hr9 ho9)
  clear hr9 ho9
  clear HD4
  go_wp2_with (first | (refine wpList_store_row rfl SXT _ _ rfl (w.heap.size + 2) (sxT c g n cap (Sh.killA T a hart)) rfl rfl SXT zeroSx HD5.out.z info_sx rfl (sx_one _ _ _ _ _ _) ?_) | (refine wpList_store_row rfl ANT _ _ rfl (w.heap.size + 3) (anC (x) false) rfl rfl ANT (anC 0 false) (HD5.out.y.rowFar (c := w.heap.size + 2) (by omega) (sxT c g n cap (Sh.killA T a hart))) info_an rfl (anC_one _ _) ?_))
  exact bodyPost_ret (results_sa Tryz.results15 _ _ (w.heap.size + 2) (w.heap.size + 3) (sxT c g n cap (Sh.killA T a hart)) (anC (x) false) _ rfl rfl rfl (HD5.out.out _ _).1 (HD5.out.out _ _).2.1 rfl rfl) rfl ⟨rfl, (HD5.out.out _ _).2.2.1, (HD5.out.out _ _).2.2.2⟩
end Go.Proofs.YtjeolfcefeglpabGreat
