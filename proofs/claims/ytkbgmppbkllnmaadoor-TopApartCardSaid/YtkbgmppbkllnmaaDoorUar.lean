/-
  Plain numbers: what a supervisor writes, and what it reads and writes back; two files compared. CsrfileHides walked. CsrfilePlays walked.
-/
import Derived.Test.YtkbgmppbkllnmaaDoorUaq
import Derived.Test.YtkbgmppbkllnmaaDoorUan
set_option maxRecDepth 20000
namespace Go.Proofs.YtkbgmppbkllnmaaDoor
open Go.ChangeShapes Go.WideShapes Go.ChangeAt Go.RowKit Wd Csr Sta Cf

theorem pend0 {s : S} (ok : Ok s) : pendS s 0 = s.f 836 := by
  have h := ok.w 836
  unfold pendS
  rw [show bits .and .u64 0 2696 = 0 by decide]
  have hr := or_range h.1 h.2 (y := 0) (by omega) (by omega)
  apply ext hr.1 hr.2 h.1 h.2
  intro i _
  rw [tb_or h.1 h.2 (by omega) (by omega), tb_zero, Bool.or_false]
theorem xor_none {a b m : Int} (ha : W64 a) (hb : W64 b) (hm : W64 m) (h : ∀ i, i < 64 → tb m i = false → tb a i = tb b i) : bits .andNot .u64 (bits .xor .u64 a b) m = 0 := by
  have x := cxor_range ha.1 ha.2 hb.1 hb.2
  have y := andNot_range x.1 x.2 hm.1 hm.2
  apply ext y.1 y.2 (by omega) (by omega)
  intro i hi
  rw [tb_andNot x.1 x.2 hm.1 hm.2, cxor ha.1 ha.2 hb.1 hb.2, tb_zero]
  cases hmi : tb m i
  · rw [h i hi hmi]; simp
  · simp
def nrD (j : Nat) : Int := if j = 0 then 256 else if j = 1 then 260 else 324
def bhD (j : Nat) : Int := if j = 0 then 768 else if j = 1 then 772 else 836
def seeD (s : S) (j : Nat) : Int := if j = 0 then viewS 18446744073709551615 else if j = 1 then s.f 771 else bits .and .u64 (s.f 771) 2
theorem see_64 {s : S} (ok : Ok s) (j : Nat) : W64 (seeD s j) := by
  unfold seeD
  repeat' split
  · exact view_range ⟨by omega, by omega⟩
  · exact ok.w _
  · exact and_64 (ok.w _) ⟨by omega, by omega⟩
theorem view_leg {x : Int} (hx : W64 x) : legS 256 x (viewS x) = x := by
  rw [leg256]
  have hn := nextS_range (maskC 256) x (viewS x)
  apply ext hn.1 hn.2 hx.1 hx.2
  intro i hi
  rw [tb_next _ _ _ hi, tb_view hx hi]
  cases h : tb (maskC 256) i
  · simp
  · have hs : seenB i = true := by
      rw [tbSst hi] at h
      cases hh : seenB i
      · rw [hh] at h; cases h
      · rfl
    rw [hs]; simp
theorem hid_same {s : S} (ok : Ok s) {j : Nat} (hj : j < 3) : setS s (nrD j) (getS s (nrD j) 0) = s := by
  obtain rfl | rfl | rfl : j = 0 ∨ j = 1 ∨ j = 2 := by omega
  · show setS s 256 (viewS (s.f 768)) = s
    rw [set_sst, view_leg (ok.w 768), Cf.put_self]
  · show setS s 260 (bits .and .u64 (s.f 772) (s.f 771)) = s
    have hx := ok.w 772
    have hd := ok.w 771
    have hn := nextS_range (s.f 771) (s.f 772) (bits .and .u64 (s.f 772) (s.f 771))
    rw [set_sie, show nextS (s.f 771) (s.f 772) (bits .and .u64 (s.f 772) (s.f 771)) = s.f 772 by
      apply ext hn.1 hn.2 hx.1 hx.2
      intro i hi
      rw [tb_next _ _ _ hi, tb_and hx.1 hx.2 hd.1 hd.2]
      cases tb (s.f 771) i <;> simp, Cf.put_self]
  · show setS s 324 (bits .and .u64 (pendS s 0) (s.f 771)) = s
    rw [pend0 ok]
    have hx := ok.w 836
    have hd := ok.w 771
    have hm := and_64 hd (show W64 2 from ⟨by omega, by omega⟩)
    have hn := nextS_range (bits .and .u64 (s.f 771) 2) (s.f 836) (bits .and .u64 (s.f 836) (s.f 771))
    rw [set_sip, show nextS (bits .and .u64 (s.f 771) 2) (s.f 836) (bits .and .u64 (s.f 836) (s.f 771)) = s.f 836 by
      apply ext hn.1 hn.2 hx.1 hx.2
      intro i hi
      rw [tb_next _ _ _ hi, tb_and hx.1 hx.2 hd.1 hd.2, tb_and hd.1 hd.2 (by omega) (by omega)]
      cases tb (s.f 771) i <;> simp, Cf.put_self]
def newD (s : S) (j : Nat) (v : Int) : Int := if j = 0 then legS 256 (s.f 768) v else if j = 1 then nextS (s.f 771) (s.f 772) v else nextS (bits .and .u64 (s.f 771) 2) (s.f 836) v
theorem set_new {s : S} {j : Nat} (hj : j < 3) (v : Int) : setS s (nrD j) v = s.put (bhD j) (newD s j v) := by
  obtain rfl | rfl | rfl : j = 0 ∨ j = 1 ∨ j = 2 := by omega
  · exact set_sst s v
  · exact set_sie s v
  · exact set_sip s v
theorem new_64 {s : S} (ok : Ok s) (j : Nat) (v : Int) : W64 (newD s j v) := by
  unfold newD
  repeat' split
  · exact legS_range (ok.w _)
  · exact nextS_range _ _ _
  · exact nextS_range _ _ _
theorem get_bh {s : S} (ok : Ok s) {j : Nat} (hj : j < 3) : getS s (bhD j) 0 = s.f (bhD j) := by
  obtain rfl | rfl | rfl : j = 0 ∨ j = 1 ∨ j = 2 := by omega
  · rfl
  · rfl
  · exact pend0 ok
theorem new_kept {s : S} (ok : Ok s) {j : Nat} (hj : j < 3) (v : Int) {i : Nat} (hi : i < 64) (hm : tb (seeD s j) i = false) : tb (s.f (bhD j)) i = tb (newD s j v) i := by
  obtain rfl | rfl | rfl : j = 0 ∨ j = 1 ∨ j = 2 := by omega
  · have hv : tb (viewS 18446744073709551615) i = false := hm
    show tb (s.f 768) i = tb (legS 256 (s.f 768) v) i
    rw [tb_view ⟨by omega, by omega⟩ hi, tb_ones hi, Bool.true_and] at hv
    rw [leg_kept (ok.w 768) hi (by rw [tbSst hi, hv]; rfl)]
  · have hv : tb (s.f 771) i = false := hm
    show tb (s.f 772) i = tb (nextS (s.f 771) (s.f 772) v) i
    rw [tb_next _ _ _ hi, hv]; rfl
  · have hv : tb (bits .and .u64 (s.f 771) 2) i = false := hm
    show tb (s.f 836) i = tb (nextS (bits .and .u64 (s.f 771) 2) (s.f 836) v) i
    rw [tb_next _ _ _ hi, hv]; rfl
theorem hid_beh {s : S} (ok : Ok s) {j : Nat} (hj : j < 3) (v : Int) : bits .andNot .u64 (bits .xor .u64 (getS s (bhD j) 0) (getS (s.put (bhD j) (newD s j v)) (bhD j) 0)) (seeD s j) = 0 := by
  have ok' : Ok (s.put (bhD j) (newD s j v)) := ok.put (by obtain rfl | rfl | rfl : j = 0 ∨ j = 1 ∨ j = 2 := by omega
                                                           all_goals decide) (new_64 ok j v)
  rw [get_bh ok hj, get_bh ok' hj, put_at]
  exact xor_none (ok.w _) (new_64 ok j v) (see_64 ok j) (fun i hi hm => new_kept ok hj v hi hm)
theorem hid_rest {s : S} {j : Nat} (hj : j < 3) {m : Int} (h1 : m ≠ bhD j) (h2 : m ≠ nrD j) (x : Int) : getS s m 0 = getS (s.put (bhD j) x) m 0 := by
  unfold getS pendS
  obtain rfl | rfl | rfl : j = 0 ∨ j = 1 ∨ j = 2 := by omega
  all_goals
    simp only [bhD, nrD, if_true, if_false, Nat.reduceEqDiff] at h1 h2 ⊢
    repeat' split
    all_goals first | rfl | (rw [put_ne]; omega) | (rw [put_ne, put_ne] <;> omega) | (exfalso; omega) | skip
def ksF : List (Option IntKind) := some .i64 :: (List.replicate 22 (some .u64) ++ [none, none])
theorem okL_w : ∀ (l : List Nat) (f : Int → Int), (∀ n, W64 (f n)) → Eqf.okL (List.replicate l.length (some .u64)) (l.map (fun k => Value.int .u64 (f (k : Nat)))) = true
  | [], _, _ => rfl
  | k :: l, f, h => by
    simp only [List.length_cons, List.replicate_succ, List.map_cons, Eqf.okL, Eqf.okV, decide_true, Bool.true_and, Bool.and_eq_true]
    exact ⟨WalkArith.wf_u64 ⟨(h _).1, by have := (h (k : Nat)).2; omega⟩, okL_w l f h⟩
theorem okL_F {s : S} (ok : Ok s) : Eqf.okL ksF (fileV s).toList = true := by
  show Eqf.okL ksF (cellsL s keptL) = true
  unfold ksF cellsL
  simp only [Eqf.okL, Eqf.okV, decide_true, Bool.true_and, Bool.and_eq_true]
  refine ⟨WalkArith.wf_i64 ⟨ok.h.1, by have := ok.h.2; omega⟩, Eqf.app_okL (okL_w keptL s.f ok.w) rfl⟩
theorem formed_szF {P : Program} {t : TypeId} {cs : Array Value} {k : Nat} (h : cs.size = k) (hk : (match P.underlying t with | some (.struct _) | some (.array _ _) => k == P.cellsOf t | _ => false) = true) : Value.formed P t (.agg cs) = true := by
  subst h
  exact hk
theorem formed_fl (s : S) : Value.formed Tryd.prog FlT (.agg (fileV s)) = true := formed_szF (k := 25) (fileV_size s) (by kernel_rfl)
theorem neq_fl {s : S} (ok : Ok s) (w : World) : (binOp .neq FlT (.agg (fileV s)) (.agg (fileV s))).run Tryd.prog w = .ok (.bool false) w := by
  rw [Eqf.bneq w 6 (by omega) FlT ksF (by kernel_rfl) (by kernel_rfl) _ _ (formed_fl s) (formed_fl s) (okL_F ok) (okL_F ok), Eqf.eqL_self (okL_F ok)]; rfl
theorem guard_fl : Tryd.prog.eqGuardType Tryd.prog.depth FlT = false := by kernel_rfl
end Go.Proofs.YtkbgmppbkllnmaaDoor
set_option maxRecDepth 20000
namespace Go.Proofs.YtkbgmppbkllnmaaDoor
open Go.ChangeShapes Go.WideShapes Go.ChangeAt Go.RowKit Wd Csr Sta Cf

/-- What stands while deeds are done: the file, the reference's file, the tables; the blocks of both were made behind w. -/
structure PyS (w W : World) (g gx : Nat) (s : S) : Prop where
  fl : FlAt W g s
  x : CsAt W gx RfT (refV s)
  n : RowsIn W
  k : KeptIn W
  hg : w.heap.size ≤ g
  hx : w.heap.size ≤ gx
  ne : g ≠ gx
  far : g ≠ 2 ∧ g ≠ 1
  farx : gx ≠ 2 ∧ gx ≠ 1
  bel : Below w.heap.size w W
section
variable {w W W' : World} {g gx : Nat} {s t : S}
theorem PyS.low (h : PyS w W g gx s) (hb : Below W.heap.size W W') : PyS w W' g gx s := ⟨h.fl.low hb, h.x.low hb, h.n.low hb, h.k.low hb, h.hg, h.hx, h.ne, h.far, h.farx, h.bel.trans (hb.mono h.bel.size)⟩
theorem PyS.drew (h : PyS w W g gx s) : PyS w W.drew g gx s := ⟨h.fl.drew, h.x, h.n, h.k, h.hg, h.hx, h.ne, h.far, h.farx, h.bel.drew⟩
end
/-- The file has gone on, the reference's has not yet. -/
structure PzS (w W : World) (g gx : Nat) (s t : S) : Prop where
  fl : FlAt W g t
  x : CsAt W gx RfT (refV s)
  n : RowsIn W
  k : KeptIn W
  hg : w.heap.size ≤ g
  hx : w.heap.size ≤ gx
  ne : g ≠ gx
  far : g ≠ 2 ∧ g ≠ 1
  farx : gx ≠ 2 ∧ gx ≠ 1
  bel : Below w.heap.size w W
section
variable {w W W' : World} {g gx : Nat} {s t : S}
theorem PyS.fq (h : PyS w W g gx s) (q : FQ g t W W') : PzS w W' g gx s t :=
  ⟨q.fl, q.chg.cs h.x (fun (e : gx = g) => h.ne e.symm), (q.tab h.far h.n h.k).1, (q.tab h.far h.n h.k).2, h.hg, h.hx, h.ne, h.far, h.farx, h.bel.trans (q.chg.below h.bel.size (fun k hk => by rw [show k = g from hk]; exact h.hg))⟩
theorem PzS.low (h : PzS w W g gx s t) (hb : Below W.heap.size W W') : PzS w W' g gx s t := ⟨h.fl.low hb, h.x.low hb, h.n.low hb, h.k.low hb, h.hg, h.hx, h.ne, h.far, h.farx, h.bel.trans (hb.mono h.bel.size)⟩
theorem PzS.row (h : PzS w W g gx s t) : PyS w (W.setRow gx (refV t)) g gx t := by
  have hc : Chg (one gx) W (W.setRow gx (refV t)) := Chg.of_row (S := one gx) rfl _
  exact ⟨⟨h.fl.r.rowFar h.ne _, h.fl.ok⟩, h.x.row _, h.n.chg hc (fun (e : 2 = gx) => h.farx.1 e.symm), h.k.chg hc (fun (e : 1 = gx) => h.farx.2 e.symm), h.hg, h.hx, h.ne, h.far, h.farx, below_setRow h.bel h.hx _⟩
end
theorem df_row {w : World} {db off k : Nat} {d : Df} (hc : ∀ f, f < 12 → w.cell? ⟨db, off + k * 12 + f, none⟩ = d.cells[f]?) {W : World} (hlt : db < w.heap.size) (hb : Below w.heap.size w W) (f : Nat) (hf : f < 12) : W.cell? ⟨db, off + k * 12 + f, none⟩ = d.cells[f]? :=
  ((World.cell?_of_block (w := w) (hb.block db hlt)).trans (hc f hf))
theorem info_i3 : (Tryd.prog.info? 3).map (fun i => (i.zero, i.size, i.bytes)) = some (some (.int .i64 0), 1, 8) := by kernel_rfl
/-- Two files, one as it was. -/
structure HdS (w W : World) (g gw : Nat) (s t : S) : Prop where
  fl : FlAt W g t
  wa : FlAt W gw s
  n : RowsIn W
  k : KeptIn W
  hg : w.heap.size ≤ g
  ne : g ≠ gw
  far : g ≠ 2 ∧ g ≠ 1
  bel : Below w.heap.size w W
section
variable {w W W' : World} {g gw : Nat} {s t t' : S}
theorem HdS.low (h : HdS w W g gw s t) (hb : Below W.heap.size W W') : HdS w W' g gw s t := ⟨h.fl.low hb, h.wa.low hb, h.n.low hb, h.k.low hb, h.hg, h.ne, h.far, h.bel.trans (hb.mono h.bel.size)⟩
theorem HdS.drew (h : HdS w W g gw s t) : HdS w W.drew g gw s t := ⟨h.fl.drew, h.wa.drew, h.n, h.k, h.hg, h.ne, h.far, h.bel.drew⟩
theorem HdS.fq (h : HdS w W g gw s t) (q : FQ g t' W W') : HdS w W' g gw s t' :=
  ⟨q.fl, ⟨q.chg.cs h.wa.r (fun (e : gw = g) => h.ne e.symm), h.wa.ok⟩, (q.tab h.far h.n h.k).1, (q.tab h.far h.n h.k).2, h.hg, h.ne, h.far, h.bel.trans (q.chg.below h.bel.size (fun k hk => by rw [show k = g from hk]; exact h.hg))⟩
end
end Go.Proofs.YtkbgmppbkllnmaaDoor
set_option maxRecDepth 20000
namespace Go.Proofs.YtkbgmppbkllnmaaDoor
open Go.ChangeShapes Go.WideShapes Go.ChangeAt Go.RowKit Wd Csr Sta Cf

theorem wpList_load_rowF {P : Program} {ops : Array Oper} {rest : List Oper} {o : Oper} {a : Act} {w : World} {Q : Exit → Act → World → Prop} (hw : Region.wanted o (yielded ops a.tmps) = true) (ty : TypeId) (x : Operand) (ho : o.op = .load ty x)
    (g : Nat) (hx : a.eval x = .pointer (some ⟨g, 0, none⟩)) (t : TypeId) (cs : Array Value) (fr : Nat × Nat) (d : TypeDesc) (hg : w.heap[g]? = some (.cells cs t fr))
    (hu : P.underlying ty = some d) (hd : (match d with | .struct _ | .array _ _ => true | _ => false) = true) (hi : (P.info? ty).map (·.size) = some cs.size)
    (h : wpList P ops Q rest (a.put o.dst (.agg cs)) w) : wpList P ops Q (o :: rest) a w :=
  wpList_step fun _ hK => by
    rw [if_pos hw]
    exact wp_load_row ty x ho g hx t cs fr d hg hu hd hi (hK _ _ h)
theorem get0 {s : S} (ok : Ok s) (l : Int) : getS s 0 l = 0 := ok.z 0 (by decide)
/-- What stands while Same compares: the file, the reference's in its box, the table. -/
structure SmS (w W : World) (g gr : Nat) (s : S) : Prop where
  fl : FlAt W g s
  x : CsAt W w.heap.size RfT (refV s)
  r : RRAt W gr
  k : KeptIn W
  bel : Below w.heap.size w W
theorem SmS.low {w W W' : World} {g gr : Nat} {s : S} (h : SmS w W g gr s) (hb : Below W.heap.size W W') : SmS w W' g gr s := ⟨h.fl.low hb, h.x.low hb, h.r.low hb, h.k.low hb, h.bel.trans (hb.mono h.bel.size)⟩
theorem SmS.drew {w W : World} {g gr : Nat} {s : S} (h : SmS w W g gr s) : SmS w W.drew g gr s := ⟨h.fl.drew, h.x, h.r, h.k, h.bel.drew⟩
set_option maxHeartbeats 8000000 in
theorem same22_c (g : Nat) (s : S) (ok : Ok s) (l : Int) (hl : W64 l) (w : World) (hK : KeptIn w) (h : FlAt w g s) :
    Calls Tryd.prog 13 #[.pointer (some ⟨g, 0, none⟩), .agg (refV s), .int .u64 l] w fun e w' => e = .returned (.bool true) ∧ Below w.heap.size w w' := by
  have OK := Lib.hid ok
  have HLL := Lib.hid hl
  have hB : Below w.heap.size w ((w.alloc (.cells (refV s) RfT)).alloc (.cells rrCells RrT)) := ((Below.refl _ _).alloc (Nat.le_refl _) _).alloc (by simp) _
  have hr := rrAt_new (w.alloc (.cells (refV s) RfT))
  simp only [World.size_alloc] at hr
  have HS0 := Lib.hid (show SmS w ((w.alloc (.cells (refV s) RfT)).alloc (.cells rrCells RrT)) g (w.heap.size + 1) s from ⟨h.low hB, (CsAt.new w RfT _).alloc _, hr, hK.low hB, hB⟩)
  clear hB hr h hK ok hl
  go_enter Tryd.func13, Tryd.ntmps13
  go_wp2_with fail
  refine (rrows_c _).mono ?_
  rintro e w1 ⟨rfl, rfl⟩
  generalize ((w.alloc (.cells (refV s) RfT)).alloc (.cells rrCells RrT)) = w2 at *
  go_wp2_with fail
  go_loopw [8] (fun i wr => ∃ k : Nat, k ≤ 34 ∧ i = .int .i64 k ∧ SmS w wr g (w.heap.size + 1) s) (fun i _ => 34 - (intOf i).toNat)
  case atStart => exact ⟨0, Nat.zero_le _, rfl, HS0.out⟩
  case round =>
    clear HS0
    obtain ⟨k, hk, rfl, hS⟩ := hrel
    have HS := Lib.hid hS
    clear hS
    by_cases hlt : k < 34
    · have hl2 : (k : Int) < 34 := by omega
      obtain ⟨m, hm⟩ : ∃ m : Int, (((rowC k).1 : Nat) : Int) = m := ⟨_, rfl⟩
      have HM := Lib.hid hm
      clear hm
      go_upto_region 5 with fail
      skip
      · skip
        refine wp_region_steady (fun W => SmS w W g (w.heap.size + 1) s) (by kernel_rfl) (by kernel_rfl) HS.out.drew ?_
        iterate 5
          refine steady_val ?_ ?_ (by kernel_rfl) (fun W hS => ?_) ?_ ?_
          rotate_left 2
          · go_simp
            exact rfl
          · go_simp
            exact rfl
        refine steady_val ?_ ?_ (by kernel_rfl) (fun W hS => ?_) ?_ ?_
        rotate_left 2
        · have q := (hS.r.2 k hlt).1; rw [HM.out] at q; go_simp
          exact rfl
        · go_simp
          exact rfl
        refine steady_val ?_ ?_ (by kernel_rfl) (fun W hS => ?_) ?_ ?_
        rotate_left 2
        · go_simp
          exact rfl
        · go_simp
          exact rfl
        refine steady_enter (.int .u64 (getS s m l)) 24 #[.pointer (some ⟨g, 0, none⟩), .int .i64 m, .int .u64 l] ?_ (by kernel_rfl) (fun W hS => ?_) (fun W hS => (fcget_c g m l s W hS.k hS.fl).mono (by rintro e w' ⟨rfl, hb⟩; exact ⟨rfl, hS.low hb⟩)) ?_ ?_
        rotate_left 1
        · go_simp
        · go_simp
          exact rfl
        refine steady_val (.agg (refV s)) ?_ (by kernel_rfl) (fun W hS => exec_load_row RfT _ rfl w.heap.size rfl RfT _ _ hS.x Tryd.underlying38 rfl (iRf _)) ?_ ?_
        rotate_left 1
        · go_simp
          exact rfl
        iterate 4
          refine steady_val ?_ ?_ (by kernel_rfl) (fun W hS => ?_) ?_ ?_
          rotate_left 2
          · go_simp
            exact rfl
          · go_simp
            exact rfl
        refine steady_val ?_ ?_ (by kernel_rfl) (fun W hS => ?_) ?_ ?_
        rotate_left 2
        · have q := (hS.r.2 k hlt).1; rw [HM.out] at q; go_simp
          exact rfl
        · go_simp
          exact rfl
        refine steady_val ?_ ?_ (by kernel_rfl) (fun W hS => ?_) ?_ ?_
        rotate_left 2
        · go_simp
          exact rfl
        · go_simp
          exact rfl
        refine steady_enter (.int .u64 (getS s m l)) 41 #[.agg (refV s), .int .i64 m, .int .u64 l] ?_ (by kernel_rfl) (fun W hS => ?_) (fun W hS => (rget22_c s OK.out m l HLL.out W).mono (by rintro e w' ⟨rfl, hb⟩; exact ⟨rfl, hS.low hb⟩)) ?_ ?_
        rotate_left 1
        · go_simp
        · go_simp
          exact rfl
        refine steady_val ?_ ?_ (by kernel_rfl) (fun W hS => ?_) ?_ ?_
        rotate_left 2
        · have qq : (getS s m l == getS s m l) = true := by simp
          go_simp
          exact rfl
        · go_simp
          exact rfl
        refine steady_nil ?_
        intro W hS
        have HS2 := Lib.hid hS
        clear hS HS
        go_wp2_with fail
        go_roundw
        case rel => exact ⟨k + 1, by omega, by go_num, HS2.out⟩
        case measure => simp [intOf]; omega
    · obtain rfl : k = 34 := by omega
      go_wp2_with fail
      refine (fcget_c g 0 l s _ HS.out.k HS.out.fl).mono ?_
      rintro e w5 ⟨rfl, hb⟩
      rw [get0 OK.out l]
      have HB := Lib.hid (HS.out.bel.trans (hb.mono HS.out.bel.size))
      clear hb
      go_wp2_with fail
      go_ret
      exact ⟨rfl, HB.out⟩
end Go.Proofs.YtkbgmppbkllnmaaDoor
