/-
  TopApart walked.
-/
import Derived.Test.YtkbgmppbkllnmaaDoorUbc
import Derived.Deep.Cut
import Derived.Deep.DeepCutAuto
set_option maxRecDepth 20000
namespace Go.Proofs.YtkbgmppbkllnmaaDoor
open Go.ChangeShapes Go.WideShapes Go.ChangeAt Go.RowKit Wd Csr Sta Cf Cau Go.Deep

def lvE : S := trapS (new 0) 3 0 8 (wordK false 8) 0
theorem lvE_to : toK false 8 0 ((new 0).f 770) ((new 0).f 771) = 3 := by decide +kernel
theorem lvE_a : getS lvE 833 0 = 8 := by decide +kernel
theorem lvE_b : getS lvE 834 0 = 8 := by decide +kernel
theorem call0 : callK 0 = 8 := by decide
set_option maxHeartbeats 8000000 in
theorem entered_c (w : World) (hT : RowsIn w ∧ KeptIn w) : Calls Tryd.prog 25 #[] w fun e w' => e = .returned (.bool true) ∧ Below w.heap.size w w' := by
  have HT := Lib.hid hT
  have HNW := Lib.hid (fnew_c 0 ⟨by omega, by omega⟩ w hT.2)
  have HCL := Lib.hid (fun W => kcall_c 0 W)
  rw [call0] at HCL
  clear hT
  go_enter Tryd.func25, Tryd.ntmps25
  go_wp2_with fail
  refine HNW.out.mono ?_
  rintro e w1 ⟨rfl, hb1⟩
  have HB1 := Lib.hid hb1
  clear hb1 HNW
  go_upto_region 2 with (first
    | (refine wpList_allocY rfl _ rfl FlT rfl (fileV (zero 0)) (zero_fl _) ?_)
    | (refine wpList_storeNew (w0 := w1) rfl FlT _ _ rfl (fileV (zero 0)) (fileV (new 0)) FlT rfl rfl (iFl _) (by rw [fileV_size, fileV_size]) (flV_one _) ?_))
  have HF1 := Lib.hid (show FlAt (w1.alloc (.cells (fileV (new 0)) FlT)) w1.heap.size (new 0) from ⟨CsAt.new w1 FlT (fileV (new 0)), new_ok ⟨by omega, by omega⟩⟩)
  have HB2 := Lib.hid (HB1.out.alloc HB1.out.size (.cells (fileV (new 0)) FlT))
  have HFR := Lib.hid (new_far HT.out.1 HT.out.2 HB1.out.size)
  have HGE := Lib.hid HB1.out.size
  clear HB1
  generalize w1.alloc (.cells (fileV (new 0)) FlT) = w2 at *
  generalize w1.heap.size = g at *
  go_wp2_with fail
  refine (HCL.out _).mono ?_
  rintro e w3 ⟨rfl, hb⟩
  have HB3 := Lib.hid (HB2.out.trans (hb.mono HB2.out.size))
  have HF3 := Lib.hid (HF1.out.low hb)
  clear hb HB2 HF1 HCL
  have HEN := Lib.hid (fun W hn hk h => fent_c g (new 0) false 8 0 8 0 ⟨by omega, by omega⟩ ⟨by omega, by omega⟩ W hn hk HFR.out h)
  rw [lvE_to, show trapS (new 0) 3 0 8 (wordK false 8) 0 = lvE from rfl] at HEN
  generalize trapA (new 0) 3 false 8 = ta at *
  go_wp2_with fail
  refine (HEN.out _ (HT.out.1.low HB3.out) (HT.out.2.low HB3.out) HF3.out).mono ?_
  rintro e w4 ⟨rfl, hq⟩
  have hb4 := HB3.out.trans (hq.chg.below HB3.out.size (fun k hk => by rw [show k = g from hk]; exact HGE.out))
  have HB4 := Lib.hid hb4
  have HF4 := Lib.hid hq.fl
  have HK4 := Lib.hid (HT.out.2.low hb4)
  have HG1 := Lib.hid (fun W (hk : KeptIn W) (h : FlAt W g lvE) => fcget_c g 833 0 lvE W hk h)
  have HG2 := Lib.hid (fun W (hk : KeptIn W) (h : FlAt W g lvE) => fcget_c g 834 0 lvE W hk h)
  rw [lvE_a] at HG1
  rw [lvE_b] at HG2
  clear hq hb4 HB3 HF3 HT HEN
  generalize lvE = s at *
  go_wp2_with fail
  refine (HG1.out _ HK4.out HF4.out).mono ?_
  rintro e w5 ⟨rfl, hb⟩
  have HB5 := Lib.hid (HB4.out.trans (hb.mono HB4.out.size))
  have HF5 := Lib.hid (HF4.out.low hb)
  have HK5 := Lib.hid (HK4.out.low hb)
  clear hb HB4 HF4 HK4 HG1
  go_wp2_with fail
  refine (HG2.out _ HK5.out HF5.out).mono ?_
  rintro e w6 ⟨rfl, hb⟩
  have HB6 := Lib.hid (HB5.out.trans (hb.mono HB5.out.size))
  clear hb
  go_wp2_with fail
  go_ret
  exact ⟨rfl, HB6.out⟩
/-- What stands in TopApart: the file that is worked on, the file as it was, the tables, the trap in its box. -/
structure TaS (w W : World) (g gw : Nat) (s x : S) (d : Tp) : Prop where
  fl : FlAt W g x
  wa : FlAt W gw s
  n : RowsIn W
  k : KeptIn W
  o : OrderIn W
  t : CsAt W w.heap.size TpT d.cells
  hg : w.heap.size < g
  ne : gw ≠ g
  far : g ≠ 2 ∧ g ≠ 1
  faro : g ≠ 0
  bel : Below w.heap.size w W
section
variable {w W W' : World} {g gw : Nat} {s x x' : S} {d : Tp}
theorem TaS.low (h : TaS w W g gw s x d) (hb : Below W.heap.size W W') : TaS w W' g gw s x d := ⟨h.fl.low hb, h.wa.low hb, h.n.low hb, h.k.low hb, h.o.low hb, h.t.low hb, h.hg, h.ne, h.far, h.faro, h.bel.trans (hb.mono h.bel.size)⟩
theorem TaS.drew (h : TaS w W g gw s x d) : TaS w W.drew g gw s x d := ⟨h.fl.drew, h.wa.drew, h.n, h.k, h.o, h.t, h.hg, h.ne, h.far, h.faro, h.bel.drew⟩
theorem TaS.fq (h : TaS w W g gw s x d) (q : FQ g x' W W') : TaS w W' g gw s x' d :=
  ⟨q.fl, ⟨q.chg.cs h.wa.r (fun (e : gw = g) => h.ne e), h.wa.ok⟩, (q.tab h.far h.n h.k).1, (q.tab h.far h.n h.k).2, h.o.chg q.chg (fun (e : 0 = g) => h.faro e.symm), q.chg.cs h.t (fun (e : w.heap.size = g) => by have := h.hg; omega), h.hg, h.ne, h.far, h.faro,
    h.bel.trans (q.chg.below h.bel.size (fun k hk => by rw [show k = g from hk]; exact Nat.le_of_lt h.hg))⟩
theorem TaS.rd (h : TaS w W g gw s x d) : Reads (.pointer (some ⟨g, 0, none⟩)) (getS x) W := reads_file h.k h.fl
/-- A copy of the file as it was. -/
theorem TaS.again (h : TaS w W g gw s x d) : TaS w (W.alloc (.cells (fileV s) FlT)) W.heap.size gw s s d := by
  have hb : Below W.heap.size W (W.alloc (.cells (fileV s) FlT)) := (Below.refl _ _).alloc (Nat.le_refl _) _
  have h1 := h.wa.r.lt
  have h2 := h.t.lt
  have h3 := h.o.1
  exact ⟨⟨CsAt.new W FlT _, h.wa.ok⟩, h.wa.low hb, h.n.low hb, h.k.low hb, h.o.low hb, h.t.low hb, h2, by omega, new_far h.n h.k (Nat.le_refl _), by omega, h.bel.trans (hb.mono h.bel.size)⟩
end
theorem TaS.new {w W : World} {g gx : Nat} {s : S} {d : Tp} (h : TwS w W g gx s s d) (hO : OrderIn w) : TaS w (W.alloc (.cells (fileV s) FlT)) g W.heap.size s s d := by
  have hb : Below W.heap.size W (W.alloc (.cells (fileV s) FlT)) := (Below.refl _ _).alloc (Nat.le_refl _) _
  have h1 := h.fl.r.lt
  have h3 := hO.1
  have h4 := h.hg
  exact ⟨h.fl.low hb, ⟨CsAt.new W FlT _, h.fl.ok⟩, h.n.low hb, h.k.low hb, (hO.low h.bel).low hb, h.t.low hb, h.hg, by omega, h.far, by omega, h.bel.trans (hb.mono h.bel.size)⟩
def numsV (a : Int) : Array Value := #[.int .i64 (numA a 0), .int .i64 (numA a 1), .int .i64 (numA a 2)]
theorem nums_3 : numsV 3 = #[.int .i64 321, .int .i64 322, .int .i64 323] := rfl
theorem nums_1 : numsV 1 = #[.int .i64 833, .int .i64 834, .int .i64 835] := rfl
theorem nums_at (a : Int) {k : Nat} (hk : k < 3) : (numsV a)[k]? = some (.int .i64 (numA a k)) := by
  obtain rfl | rfl | rfl : k = 0 ∨ k = 1 ∨ k = 2 := by omega
  all_goals rfl
/-- Beside what stands: the numbers that are asked for. -/
structure TbS (w W : World) (g gw go : Nat) (s x : S) (d : Tp) (a : Int) : Prop where
  e : TaS w W g gw s x d
  r : CsAt W go 3 (numsV a)
theorem TbS.low {w W W' : World} {g gw go : Nat} {s x : S} {d : Tp} {a : Int} (h : TbS w W g gw go s x d a) (hb : Below W.heap.size W W') : TbS w W' g gw go s x d a := ⟨h.e.low hb, h.r.low hb⟩
theorem TbS.drew {w W : World} {g gw go : Nat} {s x : S} {d : Tp} {a : Int} (h : TbS w W g gw go s x d a) : TbS w W.drew g gw go s x d a := ⟨h.e.drew, h.r⟩
/-- Beside what stands: what was taken at first, in its box; another box. -/
structure TcS (w W : World) (g gw gc gn : Nat) (s x : S) (d : Tp) (c : Nat) (vn : Array Value) : Prop where
  e : TaS w W g gw s x d
  c : CsAt W gc CaT #[.bool true, .int .i64 (c : Nat)]
  r : CsAt W gn CaT vn
  cg : gc ≠ g
section
variable {w W W' : World} {g gw gc gn : Nat} {s x x' : S} {d : Tp} {c : Nat} {vn : Array Value}
theorem TcS.low (h : TcS w W g gw gc gn s x d c vn) (hb : Below W.heap.size W W') : TcS w W' g gw gc gn s x d c vn := ⟨h.e.low hb, h.c.low hb, h.r.low hb, h.cg⟩
theorem TcS.drew (h : TcS w W g gw gc gn s x d c vn) : TcS w W.drew g gw gc gn s x d c vn := ⟨h.e.drew, h.c, h.r, h.cg⟩
end
set_option maxHeartbeats 32000000 in
theorem tapart_walk (ao : Option Addr) (n cap : Nat) (l : List Df) (q : Tp) (ln : Int) (w : World) (hds : Dfs w ao n l) (hq : q.In) (hln : 0 ≤ ln ∧ ln ≤ 18446744073709551615) (hT : RowsIn w ∧ KeptIn w) (hO : OrderIn w) :
    Calls Tryd.prog 7 #[.slice ao n cap, .agg q.cells, .int .u64 ln] w fun e w' => e = .returned (.bool true) ∧ Below w.heap.size w w' := by
  obtain ⟨⟨i, c⟩, p, pc, tv⟩ := q
  have hb0 : Below w.heap.size w (w.alloc (.cells (Tp.cells ⟨⟨i, c⟩, p, pc, tv⟩) TpT)) := (Below.refl _ _).alloc (Nat.le_refl _) _
  have HB0 := Lib.hid hb0
  have z2 : (w.alloc (.cells (Tp.cells ⟨⟨i, c⟩, p, pc, tv⟩) TpT)).cell? ⟨w.heap.size, 2, none⟩ = some (.int .i64 p) := (CsAt.new w TpT (Tp.cells ⟨⟨i, c⟩, p, pc, tv⟩)).cell 2
  dsimp only [Tp.cells, Kc.cells] at HB0 z2 ⊢
  have HPC := Lib.hid (lt64 hq.pc)
  have HTV := Lib.hid (lt64 hq.tval)
  have HLN := Lib.hid (lt64 hln)
  have HT := Lib.hid hT
  have HO := Lib.hid hO
  have HFI := Lib.hid (fun (W : World) (hb : Below w.heap.size w W) => files_c ao n cap l W (hds.low hb) ⟨hT.1.low hb, hT.2.low hb⟩)
  clear hds hq hT hO hln hb0
  by_cases hlong : 30 < n
  · have g0 : decide ((n : Int) > 30) = true := by simp; omega
    clear hlong
    go_enter Tryd.func7, Tryd.ntmps7
    go_upto_region 1 with fail
    generalize (w.alloc (.cells #[.bool i, .int .i64 c, .int .i64 p, .int .u64 pc, .int .u64 tv] TpT)) = w1 at *
    go_wp2_with fail
    refine (entered_c _ ⟨HT.out.1.low HB0.out, HT.out.2.low HB0.out⟩).mono ?_
    rintro e w2 ⟨rfl, hb⟩
    have HB := Lib.hid (HB0.out.trans (hb.mono HB0.out.size))
    clear hb
    go_wp2_with fail
    go_ret
    exact ⟨rfl, HB.out⟩
  · have g0 : decide ((n : Int) > 30) = false := by simp; omega
    clear hlong
    by_cases hp : p = 0 ∨ p = 1 ∨ p = 3
    · have HP0 := Lib.hid hp
      have HW1 := Lib.hid (show Below (w.alloc (.cells #[.bool i, .int .i64 c, .int .i64 p, .int .u64 pc, .int .u64 tv] TpT)).heap.size (w.alloc (.cells #[.bool i, .int .i64 c, .int .i64 p, .int .u64 pc, .int .u64 tv] TpT)) (w.alloc (.cells #[.bool i, .int .i64 c, .int .i64 p, .int .u64 pc, .int .u64 tv] TpT)) from Below.refl _ _)
      clear hp
      go_enter Tryd.func7, Tryd.ntmps7
      go_upto_region 1 with fail
      obtain ⟨w1, hw1⟩ : ∃ w1, w.alloc (.cells #[.bool i, .int .i64 c, .int .i64 p, .int .u64 pc, .int .u64 tv] TpT) = w1 := ⟨_, rfl⟩
      rw [hw1] at z2 HB0 HW1 ⊢
      have HWE := Lib.hid hw1
      clear hw1
      go_cut [43] (fun s wx => s = .bool false ∧ w1 = wx)
      case first =>
        rcases HP0.out with rfl | rfl | rfl
        all_goals
          go_wp2_with fail
          go_meet
          case rel => exact ⟨rfl, rfl⟩
      case rest =>
        obtain ⟨rfl, rfl⟩ := hcut
        clear z2
        go_upto_region 3 with fail
        go_wp2_with fail
        refine (HFI.out _ HB0.out).mono ?_
        rintro e w2 ⟨s, ok, al, rfl, hb⟩
        have hb2 := HW1.out.trans (hb.mono HW1.out.size)
        rw [← HWE.out] at hb2
        have HP := Lib.hid (TwS.new (d := ⟨⟨i, c⟩, p, pc, tv⟩) HT.out.1 HT.out.2 hb2 ok)
        have HAL := Lib.hid al
        clear hb hb2 al ok HW1 HWE HB0 HFI
        go_upto_region 4 with (first
          | (refine wpList_allocY rfl _ rfl FlT rfl (fileV (zero 0)) (zero_fl _) ?_)
          | (refine wpList_allocY rfl _ rfl RfT rfl (refV (zero 0)) (zero_rf _) ?_)
          | (refine wpList_store_row rfl FlT _ _ rfl w2.heap.size (fileV s) rfl rfl FlT _ (boxA w2 _ _) (iFl _) (by rw [fileV_size, fileV_size]) (flV_one _) ?_)
          | (refine wpList_store_row rfl RfT _ _ rfl (w2.alloc (.cells (fileV (zero 0)) FlT)).heap.size (refV s) rfl rfl RfT _ (boxD w2 _ _ _) (iRf _) (by rw [refV_size, refV_size]) (rfV_one _) ?_))
        try simp only [World.size_alloc]
        generalize ((((w2.alloc (.cells (fileV (zero 0)) FlT)).alloc (.cells (refV (zero 0)) RfT)).setRow w2.heap.size (fileV s)).setRow (w2.heap.size + 1) (refV s)) = w3 at *
        generalize w2.heap.size + 1 = gx at *
        generalize w2.heap.size = g at *
        go_upto_region 5 with (first
          | (refine wpList_load_row rfl FlT _ rfl g rfl FlT _ (0, 0) _ HP.out.fl.r Tryd.underlying35 rfl (iFl _) ?_)
          | (refine wpList_allocY rfl _ rfl FlT rfl (fileV (zero 0)) (zero_fl _) ?_)
          | (refine wpList_storeNew (w0 := w3) rfl FlT _ _ rfl (fileV (zero 0)) (fileV s) FlT rfl rfl (iFl _) (by rw [fileV_size, fileV_size]) (flV_one _) ?_))
        have HA := Lib.hid (TaS.new HP.out HO.out)
        clear HP HT HO
        generalize w3.alloc (.cells (fileV s) FlT) = w4 at *
        generalize w3.heap.size = gw at *
        have OK := Lib.hid HA.out.fl.ok
        have z0 := HA.out.t.cell 0
        have z1 := HA.out.t.cell 1
        have z2 := HA.out.t.cell 2
        have z3 := HA.out.t.cell 3
        have z4 := HA.out.t.cell 4
        simp only [Tp.cells, List.getElem?_toArray, List.getElem?_cons_zero, List.getElem?_cons_succ] at z0 z1 z2 z3 z4
        go_wp2_with fail
        refine (fent_c g s i c p pc tv HPC.out HTV.out _ HA.out.n HA.out.k HA.out.far HA.out.fl).mono ?_
        rintro e w5 ⟨rfl, hq⟩
        have HA5 := Lib.hid (HA.out.fq hq)
        clear hq z0 z1 z2 z3 z4 HA
        have hac := toK_cases i c p (s.f 770) (s.f 771)
        generalize toK i c p (s.f 770) (s.f 771) = a at *
        have HGT := Lib.hid (fun (k : Nat) (hk : k < 3) => apart_get s hac hk p pc (wordK i c) tv)
        have HAC := Lib.hid hac
        clear hac
        generalize trapA s a i c = ta at *
        generalize trapS s a p pc (wordK i c) tv = u at *
        go_upto_region 8 with fail
        have hb6 : Below w5.heap.size w5 (w5.alloc (.cells #[.int .i64 833, .int .i64 834, .int .i64 835] 3)) := (Below.refl _ _).alloc (Nat.le_refl _) _
        have HA6 := Lib.hid (HA5.out.low hb6)
        have HN6 := Lib.hid (CsAt.new w5 3 #[.int .i64 833, .int .i64 834, .int .i64 835])
        clear hb6 HA5
        generalize w5.alloc (.cells #[.int .i64 833, .int .i64 834, .int .i64 835] 3) = w6 at *
        generalize w5.heap.size = go1 at *
        go_upto_if 66 with fail
        go_cut [13] (fun sv wx => ∃ go : Nat, sv = .slice (some ⟨go, 0, none⟩) 3 3 ∧ TbS w wx g gw go s u ⟨⟨i, c⟩, p, pc, tv⟩ a)
        case first =>
          rcases HAC.out with rfl | rfl
          · go_wp2_with fail
            go_meet
            case rel => exact ⟨_, rfl, HA6.out.low ((Below.refl _ _).alloc (Nat.le_refl _) _), CsAt.new w6 3 (numsV 3)⟩
          · go_wp2_with fail
            go_meet
            case rel => exact ⟨_, rfl, HA6.out, HN6.out⟩
        case rest =>
          obtain ⟨go, rfl, hcut⟩ := hcut
          have HB6 := Lib.hid hcut
          clear hcut HA6 HN6
          rename_i wq
          go_wp2_with fail
          go_loopw [14] (fun iv wr => ∃ k : Nat, k ≤ 3 ∧ iv = .int .i64 k ∧ TbS w wr g gw go s u ⟨⟨i, c⟩, p, pc, tv⟩ a) (fun iv _ => 3 - (intOf iv).toNat)
          case atStart => exact ⟨0, Nat.zero_le _, rfl, HB6.out⟩
          case round =>
            clear HB6
            obtain ⟨k, hk, rfl, hs⟩ := hrel
            have HS := Lib.hid hs
            clear hs
            by_cases hlt : k < 3
            · have e0 : decide ((k : Int) < 3) = true := by simp; omega
              have hk3 : (k : Int) < 3 := by omega
              have HGK := Lib.hid (HGT.out k hlt)
              have HNM := Lib.hid (nums_at a hlt)
              generalize numA a k = m at *
              generalize hy : getS s m 0 = y at *
              have HY := Lib.hid hy
              clear hy
              have hyy : (y == y) = true := by simp
              go_upto_region 13 with fail
              refine wp_region_steady (fun W => TbS w W g gw go s u ⟨⟨i, c⟩, p, pc, tv⟩ a) (by kernel_rfl) (by kernel_rfl) HS.out.drew ?_
              iterate 3
                refine steady_val ?_ ?_ (by kernel_rfl) (fun W hS => ?_) ?_ ?_
                rotate_left 2
                · go_simp
                  exact rfl
                · go_simp
                  exact rfl
              refine steady_val ?_ ?_ (by kernel_rfl) (fun W hS => ?_) ?_ ?_
              rotate_left 2
              · have q := hS.r.cell k; rw [HNM.out] at q; go_simp
                exact rfl
              · go_simp
                exact rfl
              refine steady_enter (.int .u64 y) 24 #[.pointer (some ⟨g, 0, none⟩), .int .i64 m, .int .u64 0] ?_ (by kernel_rfl) (fun W hS => ?_) (fun W hS => (by rw [← HGK.out]; exact (fcget_c g m 0 u W hS.e.k hS.e.fl).mono (by rintro e w' ⟨rfl, hb⟩; exact ⟨rfl, hS.low hb⟩))) ?_ ?_
              rotate_left 1
              · go_simp
              · go_simp
                exact rfl
              iterate 3
                refine steady_val ?_ ?_ (by kernel_rfl) (fun W hS => ?_) ?_ ?_
                rotate_left 2
                · go_simp
                  exact rfl
                · go_simp
                  exact rfl
              refine steady_val ?_ ?_ (by kernel_rfl) (fun W hS => ?_) ?_ ?_
              rotate_left 2
              · have q := hS.r.cell k; rw [HNM.out] at q; go_simp
                exact rfl
              · go_simp
                exact rfl
              refine steady_enter (.int .u64 y) 24 #[.pointer (some ⟨gw, 0, none⟩), .int .i64 m, .int .u64 0] ?_ (by kernel_rfl) (fun W hS => ?_) (fun W hS => (by rw [← HY.out]; exact (fcget_c gw m 0 s W hS.e.k hS.e.wa).mono (by rintro e w' ⟨rfl, hb⟩; exact ⟨rfl, hS.low hb⟩))) ?_ ?_
              rotate_left 1
              · go_simp
              · go_simp
                exact rfl
              refine steady_val ?_ ?_ (by kernel_rfl) (fun W hS => ?_) ?_ ?_
              rotate_left 2
              · go_simp
                exact rfl
              · go_simp
                exact rfl
              refine steady_nil ?_
              intro W hS
              have HS2 := Lib.hid hS
              clear hS HS
              go_wp2_with fail
              go_roundw
              case rel => exact ⟨k + 1, by omega, by go_num, HS2.out⟩
              case measure => simp [intOf]; omega
            · obtain rfl : k = 3 := by omega
              have e0 : decide (((3 : Nat) : Int) < 3) = false := by decide
              have HA7 := Lib.hid HS.out.e
              clear HS HGT HAC hlt hk
              go_upto_region 15 with fail
              go_upto_region 16 with (first
                | (refine wpList_load_row rfl FlT _ rfl gw rfl FlT _ (0, 0) _ HA7.out.wa.r Tryd.underlying35 rfl (iFl _) ?_)
                | (refine wpList_allocY rfl _ rfl FlT rfl (fileV (zero 0)) (zero_fl _) ?_)
                | (refine wpList_storeNew (w0 := wr) rfl FlT _ _ rfl (fileV (zero 0)) (fileV s) FlT rfl rfl (iFl _) (by rw [fileV_size, fileV_size]) (flV_one _) ?_))
              have HA8 := Lib.hid HA7.out.again
              clear HA7
              generalize wr.alloc (.cells (fileV s) FlT) = w8 at *
              generalize wr.heap.size = gg at *
              have HNX := Lib.hid (fun W (h : TaS w W gg gw s s ⟨⟨i, c⟩, p, pc, tv⟩) => inext_c (.pointer (some ⟨gg, 0, none⟩)) (getS s) (w64_file OK.out) p ln HLN.out W h.rd h.o)
              cases hnx : nextG (getS s) p ln with
              | none =>
                rw [hnx] at HNX
                clear hnx
                unfold oI at HNX
                dsimp only [Option.isSome, Option.getD] at HNX
                go_wp2_with fail
                refine (HNX.out _ HA8.out).mono ?_
                rintro e w9 ⟨rfl, hb⟩
                have HA9 := Lib.hid (HA8.out.low hb)
                clear hb HA8 HNX
                go_upto_region 17 with (first
                  | (refine wpList_allocY rfl _ rfl CaT rfl #[.bool false, .int .i64 0] (zero_caI _) ?_)
                  | (refine wpList_storeNew (w0 := w9) rfl CaT _ _ rfl #[.bool false, .int .i64 0] #[.bool false, .int .i64 (0 : Nat)] CaT rfl rfl info_caI rfl rfl ?_))
                have HAA := Lib.hid (HA9.out.low ((Below.refl _ w9).alloc (Nat.le_refl _) (.cells #[.bool false, .int .i64 (0 : Nat)] CaT)))
                clear HA9
                generalize w9.alloc (.cells #[.bool false, .int .i64 (0 : Nat)] CaT) = wa at *
                go_wp2_with fail
                refine (entered_c _ ⟨HAA.out.n, HAA.out.k⟩).mono ?_
                rintro e wb ⟨rfl, hb⟩
                have HAB := Lib.hid (HAA.out.low hb)
                clear hb
                go_wp2_with fail
                (try simp only [Exit.inBlock, Exit.then])
                go_ret
                exact ⟨rfl, HAB.out.bel⟩
              | some cc =>
                rw [hnx] at HNX
                have HNS := Lib.hid hnx
                clear hnx
                unfold oI at HNX
                dsimp only [Option.isSome, Option.getD] at HNX
                go_wp2_with fail
                refine (HNX.out _ HA8.out).mono ?_
                rintro e w9 ⟨rfl, hb⟩
                have HA9 := Lib.hid (HA8.out.low hb)
                clear hb HA8 HNX
                go_upto_region 17 with (first
                  | (refine wpList_allocY rfl _ rfl CaT rfl #[.bool false, .int .i64 0] (zero_caI _) ?_)
                  | (refine wpList_storeNew (w0 := w9) rfl CaT _ _ rfl #[.bool false, .int .i64 0] #[.bool true, .int .i64 (cc : Nat)] CaT rfl rfl info_caI rfl rfl ?_))
                have HAA := Lib.hid (HA9.out.low ((Below.refl _ w9).alloc (Nat.le_refl _) (.cells #[.bool true, .int .i64 (cc : Nat)] CaT)))
                have HCA := Lib.hid (CsAt.new w9 CaT #[.bool true, .int .i64 (cc : Nat)])
                have HCG := Lib.hid (show w9.heap.size ≠ gg from fun e => by have := HA9.out.fl.r.lt; omega)
                clear HA9
                generalize w9.alloc (.cells #[.bool true, .int .i64 (cc : Nat)] CaT) = wa at *
                generalize w9.heap.size = gc at *
                go_upto_region 19 with fail
                have z3 := HAA.out.t.cell 3
                simp only [Tp.cells, List.getElem?_toArray, List.getElem?_cons_zero, List.getElem?_cons_succ] at z3
                go_wp2_with (refine wpList_load_row rfl CaT _ rfl gc rfl CaT _ (0, 0) _ HCA.out Tryd.underlying24 rfl info_caI ?_)
                refine (fent_c gg s true cc p pc 0 HPC.out ⟨by omega, by omega⟩ _ HAA.out.n HAA.out.k HAA.out.far HAA.out.fl).mono ?_
                rintro e wb ⟨rfl, hq⟩
                have HAB := Lib.hid (HAA.out.fq hq)
                have HCB := Lib.hid (hq.chg.cs HCA.out (fun (e : gc = gg) => HCG.out e))
                clear hq z3 HAA HCA
                obtain ⟨a2, ha2⟩ : ∃ a2, a2 = toK true cc p (s.f 770) (s.f 771) := ⟨_, rfl⟩
                have hac2 : a2 = 3 ∨ a2 = 1 := by rw [ha2]; exact toK_cases _ _ _ _ _
                obtain ⟨-, hbk, hbp⟩ := trap_back (cw := wordK true cc) (tv := 0) HAL.out ha2.symm HP0.out HPC.out
                have hag := next_again (s := s) (pc := pc) (cw := wordK true cc) (tv := 0) hac2 HP0.out ln
                rw [HNS.out] at hag
                have HEN := Lib.hid (fun c2 (h : nextG (getS (trapS s a2 p pc (wordK true cc) 0)) a2 ln = some c2) => next_enter (d := 0) OK.out hac2 HP0.out HLN.out h)
                rw [← ha2] at HAB ⊢
                have HOK2 := Lib.hid HAB.out.fl.ok
                have HLV := Lib.hid (fun W (h : TaS w W gg gw s (trapS s a2 p pc (wordK true cc) 0) ⟨⟨i, c⟩, p, pc, tv⟩) => flv_c gg (trapS s a2 p pc (wordK true cc) 0) a2 W h.n h.k h.far h.fl)
                rw [hbk, hbp] at HLV
                have HN2 := Lib.hid (fun W (h : TaS w W gg gw s (trapS s a2 p pc (wordK true cc) 0) ⟨⟨i, c⟩, p, pc, tv⟩) => inext_c (.pointer (some ⟨gg, 0, none⟩)) (getS (trapS s a2 p pc (wordK true cc) 0)) (w64_file HOK2.out) a2 ln HLN.out W h.rd h.o)
                have HN3 := Lib.hid (fun W (h : TaS w W gg gw s (backS (trapS s a2 p pc (wordK true cc) 0) a2) ⟨⟨i, c⟩, p, pc, tv⟩) => inext_c (.pointer (some ⟨gg, 0, none⟩)) (getS (backS (trapS s a2 p pc (wordK true cc) 0) a2)) (w64_file (bckS_ok HOK2.out a2)) p ln HLN.out W h.rd h.o)
                rw [hag] at HN3
                unfold oI at HN3
                dsimp only [Option.isSome, Option.getD] at HN3
                have HI := Lib.hid (show I64 ((cc : Nat) : Int) by have h := next_i64 (getS s) p ln; rw [HNS.out] at h; exact h)
                clear hag hbk hbp ha2 hac2
                generalize trapA s a2 true cc = ta2 at *
                generalize backS (trapS s a2 p pc (wordK true cc) 0) a2 = v at *
                generalize trapS s a2 p pc (wordK true cc) 0 = u2 at *
                cases hn2 : nextG (getS u2) a2 ln with
                | none =>
                  rw [hn2] at HN2
                  clear hn2 HEN
                  unfold oI at HN2
                  dsimp only [Option.isSome, Option.getD] at HN2
                  go_wp2_with fail
                  refine (HN2.out _ HAB.out).mono ?_
                  rintro e wc ⟨rfl, hb⟩
                  have HAC2 := Lib.hid (HAB.out.low hb)
                  have HCC := Lib.hid (HCB.out.low hb)
                  clear hb HAB HCB HN2
                  go_upto_region 21 with (first
                    | (refine wpList_allocY rfl _ rfl CaT rfl #[.bool false, .int .i64 0] (zero_caI _) ?_)
                    | (refine wpList_storeNew (w0 := wc) rfl CaT _ _ rfl #[.bool false, .int .i64 0] #[.bool false, .int .i64 (0 : Nat)] CaT rfl rfl info_caI rfl rfl ?_))
                  have hbd : Below wc.heap.size wc (wc.alloc (.cells #[.bool false, .int .i64 (0 : Nat)] CaT)) := (Below.refl _ _).alloc (Nat.le_refl _) _
                  have HD := Lib.hid (show TcS w (wc.alloc (.cells #[.bool false, .int .i64 (0 : Nat)] CaT)) gg gw gc wc.heap.size s u2 ⟨⟨i, c⟩, p, pc, tv⟩ cc #[.bool false, .int .i64 (0 : Nat)] from ⟨HAC2.out.low hbd, HCC.out.low hbd, CsAt.new wc CaT _, HCG.out⟩)
                  clear hbd HAC2 HCC
                  generalize wc.alloc (.cells #[.bool false, .int .i64 (0 : Nat)] CaT) = wd at *
                  generalize wc.heap.size = gn at *
                  refine wp_region_steady (fun W => TcS w W gg gw gc gn s u2 ⟨⟨i, c⟩, p, pc, tv⟩ cc #[.bool false, .int .i64 (0 : Nat)]) (by kernel_rfl) (by kernel_rfl) HD.out.drew ?_
                  iterate 2
                    refine steady_val ?_ ?_ (by kernel_rfl) (fun W hS => ?_) ?_ ?_
                    rotate_left 2
                    · go_simp
                      exact rfl
                    · go_simp
                      exact rfl
                  refine steady_skip (by kernel_rfl) ?_
                  refine steady_skip (by kernel_rfl) ?_
                  refine steady_skip (by kernel_rfl) ?_
                  refine steady_skip (by kernel_rfl) ?_
                  refine steady_skip (by kernel_rfl) ?_
                  refine steady_skip (by kernel_rfl) ?_
                  refine steady_val ?_ ?_ (by kernel_rfl) (fun W hS => ?_) ?_ ?_
                  rotate_left 2
                  · go_simp
                    exact rfl
                  · go_simp
                    exact rfl
                  refine steady_nil ?_
                  intro W hS
                  have HE := Lib.hid hS.e
                  have HEC := Lib.hid hS.c
                  clear hS HD
                  go_wp2_with fail
                  refine (HLV.out _ HE.out).mono ?_
                  rintro e we ⟨rfl, hq⟩
                  have HF := Lib.hid (HE.out.fq hq)
                  have HFC := Lib.hid (hq.chg.cs HEC.out (fun (e : gc = gg) => HCG.out e))
                  clear hq HE HEC HLV
                  go_wp2_with fail
                  refine (HN3.out _ HF.out).mono ?_
                  rintro e wf ⟨rfl, hb⟩
                  have HG := Lib.hid (HF.out.low hb)
                  have HGC := Lib.hid (HFC.out.low hb)
                  clear hb HF HFC HN3
                  go_upto_region 25 with (first
                    | (refine wpList_allocY rfl _ rfl CaT rfl #[.bool false, .int .i64 0] (zero_caI _) ?_)
                    | (refine wpList_storeNew (w0 := wf) rfl CaT _ _ rfl #[.bool false, .int .i64 0] #[.bool true, .int .i64 (cc : Nat)] CaT rfl rfl info_caI rfl rfl ?_))
                  have hbg : Below wf.heap.size wf (wf.alloc (.cells #[.bool true, .int .i64 (cc : Nat)] CaT)) := (Below.refl _ _).alloc (Nat.le_refl _) _
                  have HH := Lib.hid (HG.out.low hbg)
                  have HHC := Lib.hid (HGC.out.low hbg)
                  have HHD := Lib.hid (CsAt.new wf CaT #[.bool true, .int .i64 (cc : Nat)])
                  clear hbg HG HGC
                  generalize wf.alloc (.cells #[.bool true, .int .i64 (cc : Nat)] CaT) = wg at *
                  generalize wf.heap.size = gd at *
                  have z3 := HH.out.t.cell 3
                  simp only [Tp.cells, List.getElem?_toArray, List.getElem?_cons_zero, List.getElem?_cons_succ] at z3
                  have hpp : (p == p) = true := by simp
                  have hqq : (bits .andNot .u64 pc 3 == bits .andNot .u64 pc 3) = true := by simp
                  have heq := eq_self true HI.out wg
                  go_wp2_with (first
                    | (refine wpList_load_rowF (by kernel_rfl) CaT _ rfl gd rfl CaT _ (0, 0) _ HHD.out Tryd.underlying24 rfl info_caI ?_)
                    | (refine wpList_load_rowF (by kernel_rfl) CaT _ rfl gc rfl CaT _ (0, 0) _ HHC.out Tryd.underlying24 rfl info_caI ?_))
                  refine (entered_c _ ⟨HH.out.n, HH.out.k⟩).mono ?_
                  rintro e wh ⟨rfl, hb⟩
                  have HZ := Lib.hid (HH.out.low hb)
                  clear hb heq
                  go_wp2_with fail
                  go_ret
                  exact ⟨rfl, HZ.out.bel⟩
                | some c2 =>
                  have hne := HEN.out c2 hn2
                  rw [hn2] at HN2
                  clear hn2 HEN
                  unfold oI at HN2
                  dsimp only [Option.isSome, Option.getD] at HN2
                  have HTO := Lib.hid (fun W => kto_c true c2 a2 0 (u2.f 771) W ⟨by omega, by omega⟩ (HOK2.out.w _))
                  have HGD := Lib.hid (fun W (hk : KeptIn W) (h : FlAt W gg u2) => fcget_c gg 771 0 u2 W hk h)
                  rw [get_771] at HGD
                  have HNE := Lib.hid hne
                  clear hne
                  generalize toK true c2 a2 0 (u2.f 771) = a3 at *
                  generalize u2.f 771 = dg at *
                  go_wp2_with fail
                  refine (HN2.out _ HAB.out).mono ?_
                  rintro e wc ⟨rfl, hb⟩
                  have HAC2 := Lib.hid (HAB.out.low hb)
                  have HCC := Lib.hid (HCB.out.low hb)
                  clear hb HAB HCB HN2
                  go_upto_region 21 with (first
                    | (refine wpList_allocY rfl _ rfl CaT rfl #[.bool false, .int .i64 0] (zero_caI _) ?_)
                    | (refine wpList_storeNew (w0 := wc) rfl CaT _ _ rfl #[.bool false, .int .i64 0] #[.bool true, .int .i64 (c2 : Nat)] CaT rfl rfl info_caI rfl rfl ?_))
                  have hbd : Below wc.heap.size wc (wc.alloc (.cells #[.bool true, .int .i64 (c2 : Nat)] CaT)) := (Below.refl _ _).alloc (Nat.le_refl _) _
                  have HD := Lib.hid (show TcS w (wc.alloc (.cells #[.bool true, .int .i64 (c2 : Nat)] CaT)) gg gw gc wc.heap.size s u2 ⟨⟨i, c⟩, p, pc, tv⟩ cc #[.bool true, .int .i64 (c2 : Nat)] from ⟨HAC2.out.low hbd, HCC.out.low hbd, CsAt.new wc CaT _, HCG.out⟩)
                  clear hbd HAC2 HCC
                  generalize wc.alloc (.cells #[.bool true, .int .i64 (c2 : Nat)] CaT) = wd at *
                  generalize wc.heap.size = gn at *
                  have hne := HNE.out
                  refine wp_region_steady (fun W => TcS w W gg gw gc gn s u2 ⟨⟨i, c⟩, p, pc, tv⟩ cc #[.bool true, .int .i64 (c2 : Nat)]) (by kernel_rfl) (by kernel_rfl) HD.out.drew ?_
                  iterate 2
                    refine steady_val ?_ ?_ (by kernel_rfl) (fun W hS => ?_) ?_ ?_
                    rotate_left 2
                    · go_simp
                      exact rfl
                    · go_simp
                      exact rfl
                  refine steady_val (.agg #[.bool true, .int .i64 (c2 : Nat)]) ?_ (by kernel_rfl) (fun W hS => exec_load_row CaT _ rfl gn rfl CaT _ _ hS.r Tryd.underlying24 rfl info_caI) ?_ ?_
                  rotate_left 1
                  · go_simp
                    exact rfl
                  refine steady_val ?_ ?_ (by kernel_rfl) (fun W hS => ?_) ?_ ?_
                  rotate_left 2
                  · go_simp
                    exact rfl
                  · go_simp
                    exact rfl
                  refine steady_enter (.int .u64 dg) 24 #[.pointer (some ⟨gg, 0, none⟩), .int .i64 771, .int .u64 0] ?_ (by kernel_rfl) (fun W hS => ?_) (fun W hS => (HGD.out W hS.e.k hS.e.fl).mono (by rintro e w' ⟨rfl, hb⟩; exact ⟨rfl, hS.low hb⟩)) ?_ ?_
                  rotate_left 1
                  · go_simp
                  · go_simp
                    exact rfl
                  refine steady_enter (.int .i64 a3) 23 #[.agg #[.bool true, .int .i64 (c2 : Nat)], .int .i64 a2, .int .u64 0, .int .u64 dg] ?_ (by kernel_rfl) (fun W hS => ?_) (fun W hS => (HTO.out W).mono (by rintro e w' ⟨rfl, hb⟩; exact ⟨rfl, hS.low hb⟩)) ?_ ?_
                  rotate_left 1
                  · go_simp
                  · go_simp
                    exact rfl
                  iterate 3
                    refine steady_val ?_ ?_ (by kernel_rfl) (fun W hS => ?_) ?_ ?_
                    rotate_left 2
                    · go_simp
                      exact rfl
                    · go_simp
                      exact rfl
                  refine steady_nil ?_
                  clear hne
                  intro W hS
                  have HE := Lib.hid hS.e
                  have HEC := Lib.hid hS.c
                  clear hS HD
                  go_wp2_with fail
                  refine (HLV.out _ HE.out).mono ?_
                  rintro e we ⟨rfl, hq⟩
                  have HF := Lib.hid (HE.out.fq hq)
                  have HFC := Lib.hid (hq.chg.cs HEC.out (fun (e : gc = gg) => HCG.out e))
                  clear hq HE HEC HLV
                  go_wp2_with fail
                  refine (HN3.out _ HF.out).mono ?_
                  rintro e wf ⟨rfl, hb⟩
                  have HG := Lib.hid (HF.out.low hb)
                  have HGC := Lib.hid (HFC.out.low hb)
                  clear hb HF HFC HN3
                  go_upto_region 25 with (first
                    | (refine wpList_allocY rfl _ rfl CaT rfl #[.bool false, .int .i64 0] (zero_caI _) ?_)
                    | (refine wpList_storeNew (w0 := wf) rfl CaT _ _ rfl #[.bool false, .int .i64 0] #[.bool true, .int .i64 (cc : Nat)] CaT rfl rfl info_caI rfl rfl ?_))
                  have hbg : Below wf.heap.size wf (wf.alloc (.cells #[.bool true, .int .i64 (cc : Nat)] CaT)) := (Below.refl _ _).alloc (Nat.le_refl _) _
                  have HH := Lib.hid (HG.out.low hbg)
                  have HHC := Lib.hid (HGC.out.low hbg)
                  have HHD := Lib.hid (CsAt.new wf CaT #[.bool true, .int .i64 (cc : Nat)])
                  clear hbg HG HGC
                  generalize wf.alloc (.cells #[.bool true, .int .i64 (cc : Nat)] CaT) = wg at *
                  generalize wf.heap.size = gd at *
                  have z3 := HH.out.t.cell 3
                  simp only [Tp.cells, List.getElem?_toArray, List.getElem?_cons_zero, List.getElem?_cons_succ] at z3
                  have hpp : (p == p) = true := by simp
                  have hqq : (bits .andNot .u64 pc 3 == bits .andNot .u64 pc 3) = true := by simp
                  have heq := eq_self true HI.out wg
                  go_wp2_with (first
                    | (refine wpList_load_rowF (by kernel_rfl) CaT _ rfl gd rfl CaT _ (0, 0) _ HHD.out Tryd.underlying24 rfl info_caI ?_)
                    | (refine wpList_load_rowF (by kernel_rfl) CaT _ rfl gc rfl CaT _ (0, 0) _ HHC.out Tryd.underlying24 rfl info_caI ?_))
                  refine (entered_c _ ⟨HH.out.n, HH.out.k⟩).mono ?_
                  rintro e wh ⟨rfl, hb⟩
                  have HZ := Lib.hid (HH.out.low hb)
                  clear hb heq
                  go_wp2_with fail
                  go_ret
                  exact ⟨rfl, HZ.out.bel⟩
    · have h0 : (p != 0) = true := by simp; omega
      have h1 : (p != 1) = true := by simp; omega
      have h3 : (p != 3) = true := by simp; omega
      clear hp
      go_enter Tryd.func7, Tryd.ntmps7
      go_upto_region 1 with fail
      generalize (w.alloc (.cells #[.bool i, .int .i64 c, .int .i64 p, .int .u64 pc, .int .u64 tv] TpT)) = w1 at *
      go_wp2_with fail
      refine (entered_c _ ⟨HT.out.1.low HB0.out, HT.out.2.low HB0.out⟩).mono ?_
      rintro e w2 ⟨rfl, hb⟩
      have HB := Lib.hid (HB0.out.trans (hb.mono HB0.out.size))
      clear hb
      go_wp2_with fail
      go_ret
      exact ⟨rfl, HB.out⟩
end Go.Proofs.YtkbgmppbkllnmaaDoor
