/-
  The statement AsmBack (P6.4), tied card: for every instruction and words, roebucklaw06.AsmBack returns true and its arguments read afterwards as before. Condition: the listed variables hold what the program's text lays (the card ties them; unicode/utf8.first is pinned).
-/
import Derived.Test.YthehcplogkgkeaaGreatDoorSh
import Derived.Test.YthehcplogkgkeaaGreatDoorSf
import Derived.Test.YthehcplogkgkeaaGreatDoorRc
import Derived.Test.YthehcplogkgkeaaGreatDoorSg
import Derived.Test.YthehcplogkgkeaaGreatDoorTie
import Derived.Test.YthehcplogkgkeaaGreatDoorCards
import Derived.SevenTiedAt
import Derived.ChangeMaps5
set_option maxRecDepth 4000
namespace Go.Proofs.YthehcplogkgkeaaGreatDoor
open Go.ChangeShapes Go.WideShapes Go.ChangeAt Go.RowKit Go.ChangeMaps Wd Num

theorem words_own {base : Nat} {w : World} {v : Value} {F : List Nat} (h : w.ownsRow base 42 1 v (F.map fun X => ((X : Nat) : Int)).length ((F.map fun X => ((X : Nat) : Int)).map (Value.int .u32))) : ∃ ao cap, v = .slice ao F.length cap ∧ WordsAt w ao F := by
  have h0 := h
  rw [List.length_map] at h
  obtain ⟨hx, ⟨hv, hn⟩ | ⟨g, cap, cur, rfl, hg, hc, hle, hm, hs, ht⟩⟩ := h
  · refine ⟨none, 0, by rw [hv, hn], fun j hj => absurd hj (by omega)⟩
  · refine ⟨some ⟨g, 0, none⟩, cap, rfl, fun j hj => ⟨g, 0, rfl, ?_⟩⟩
    have := h0.cells (g := g) rfl j (.int .u32 ((F.getD j 0 : Nat) : Int)) (by simp [List.getD, hj])
    rw [show (⟨g, 0, none⟩ : Addr).add j = ⟨g, 0 + j, none⟩ by cases j <;> simp [Addr.add]] at this
    exact this
theorem nums_own {k : IntKind} {T : TypeId} {base : Nat} {w : World} {v : Value} {F : List Nat} (h : w.ownsRow base T 1 v (F.map fun X => ((X : Nat) : Int)).length ((F.map fun X => ((X : Nat) : Int)).map (Value.int k))) : ∃ ao cap, v = .slice ao F.length cap ∧ ∀ j, j < F.length → ∃ g, ao = some ⟨g, 0, none⟩ ∧ w.cell? ⟨g, j, none⟩ = some (.int k ((F.getD j 0 : Nat) : Int)) := by
  have h0 := h
  rw [List.length_map] at h
  obtain ⟨hx, ⟨hv, hn⟩ | ⟨g, cap, cur, rfl, hg, hc, hle, hm, hs, ht⟩⟩ := h
  · refine ⟨none, 0, by rw [hv, hn], fun j hj => absurd hj (by omega)⟩
  · refine ⟨some ⟨g, 0, none⟩, cap, rfl, fun j hj => ⟨g, rfl, ?_⟩⟩
    have := h0.cells (g := g) rfl j (.int k ((F.getD j 0 : Nat) : Int)) (by simp [List.getD, hj])
    rw [show (⟨g, 0, none⟩ : Addr).add j = ⟨g, j, none⟩ by cases j <;> simp [Addr.add]] at this
    exact this
def fil (l : List Nat) (k : Nat) : List Nat := (l.take k).filter keepB
def inN (F : List Nat) : List Int := F.map fun X => ((X : Nat) : Int)
theorem fil_yes {l : List Nat} {k X : Nat} (h : k < l.length) (hX : l.getD k 0 = X) (hk : keepB X = true) : fil l (k + 1) = fil l k ++ [X] := by
  unfold fil
  rw [take_snoc6 l k h, hX, List.filter_append]
  simp [hk]
theorem fil_no {l : List Nat} {k X : Nat} (h : k < l.length) (hX : l.getD k 0 = X) (hk : keepB X = false) : fil l (k + 1) = fil l k := by
  unfold fil
  rw [take_snoc6 l k h, hX, List.filter_append]
  simp [hk]
theorem fil_len (l : List Nat) (k : Nat) : (fil l k).length ≤ k := by
  unfold fil
  exact Nat.le_trans (List.length_filter_le _ _) (by simp; omega)
theorem fil_all (l : List Nat) : fil l l.length = l.filter keepB := by unfold fil; rw [List.take_length]
theorem keep_dec {X : Nat} (hX : X < 4294967296) : (keepB X = false ∧ decV X = .tuple #[.agg zeroI, .bool false]) ∨ ∃ x : Fl, keepB X = true ∧ decV X = .tuple #[.agg (flA x), .bool true] := by
  rcases line_cases X hX with ⟨hd, -⟩ | ⟨x, hd, -⟩
  · refine .inl ⟨?_, hd⟩
    unfold keepB
    unfold decV at hd
    cases hn : decN X with
    | none => rfl
    | some k => rw [hn] at hd; simp at hd
  · refine .inr ⟨x, ?_, hd⟩
    unfold keepB
    unfold decV at hd
    cases hn : decN X with
    | none => rw [hn] at hd; simp at hd
    | some k => rfl
theorem rel_n {base : Nat} {w wr w1 : World} {v v' : Value} {F : List Nat} {o : Obj} {X : Nat} (hb : base ≤ wr.heap.size)
    (hown : wr.ownsRow base 42 1 v (inN F).length ((inN F).map (Value.int .u32))) (hown' : w1.ownsRow base 42 1 v' ((inN F).length + 1) ((inN F).map (Value.int .u32) ++ [.int .u32 ((X : Nat) : Int)])) (hgrow : (wr.alloc o).grownBy w1 v.ownBlock) (hnx : Below base w wr) :
    w1.ownsRow base 42 1 v' (inN (F ++ [X])).length ((inN (F ++ [X])).map (Value.int .u32)) ∧ Below base w w1 := by
  have e : inN (F ++ [X]) = inN F ++ [((X : Nat) : Int)] := by simp [inN]
  rw [e]
  exact rel_k hb hown hown' hgrow hnx
set_option maxHeartbeats 8000000 in
theorem aback_in (x : Fl) (ao : Option Addr) (cap : Nat) (l : List Nat) (w : World) (hm : MemW w) (hn : l.length ≤ 60) (hwa : WordsAt w ao l) (hwb : ∀ X ∈ l, X < 4294967296) (T : ByteArray) (c : Int)
    (ht : ∀ W, MemW W → Calls Tryz.prog 8 #[.agg #[.int .i64 x.op, .int .i64 x.rd, .int .i64 x.rs1, .int .i64 x.rs2, .int .i64 x.imm, .int .i64 x.csr, .bool x.aq, .bool x.rl]] W fun e w' => e = .returned (.tuple #[.string T, .int .i64 c]) ∧ Below W.heap.size W w')
    (hp : c = 0 → ∀ W, MemW W → Calls Tryz.prog 12 #[.string T] W fun e w' => e = .returned (.tuple #[.agg (flA x), .int .i64 0]) ∧ Below W.heap.size W w') :
    Calls Tryz.prog 6 #[.agg (flA x), .slice ao l.length cap] w fun e w' => e = .returned (.bool true) ∧ Below w.heap.size w w' := by
  obtain ⟨i0, hi, hz0, hz1, hz2⟩ := info_parts info_u32
  have HM := Lib.hid hm
  have HT := Lib.hid ht
  have HPP := Lib.hid hp
  have HWA := Lib.hid hwa
  have HWB := Lib.hid hwb
  have HFB := Lib.hid (show ∀ X ∈ l.filter keepB, X < 4294967296 from fun X hX => hwb X (List.mem_filter.1 hX).1)
  have HFK := Lib.hid (show ∀ X ∈ l.filter keepB, keepB X = true from fun X hX => (List.mem_filter.1 hX).2)
  obtain ⟨n, hnn⟩ : ∃ n, l.length = n := ⟨_, rfl⟩
  have HLN := Lib.hid hnn
  rw [hnn] at hn ⊢
  have e1 : decide (60 < (n : Int)) = false := by simp; omega
  have HB0 := Lib.hid ((Below.refl w.heap.size w).alloc (Nat.le_refl _) (.cells (flA x) 24))
  have HI0 := Lib.hid (CsAt.new w 24 (flA x))
  clear hm ht hp hwa hwb hnn
  go_enter Tryz.func6, Tryz.ntmps6
  have HQ := Lib.hid (fl8_of HI0.out)
  obtain ⟨j0, j1, j2, j3, j4, j5, j6, j7⟩ := HQ.out
  go_wp2_with fail
  generalize (w.alloc (.cells (flA x) 24)) = W0 at *
  refine (HT.out _ (HM.out.low HB0.out)).mono ?_
  rintro e w1 ⟨rfl, hb⟩
  have HB1 := Lib.hid (HB0.out.trans (hb.mono HB0.out.size))
  have HI1 := Lib.hid (HI0.out.low hb)
  clear hb j0 j1 j2 j3 j4 j5 j6 j7 HQ HT HB0 HI0
  go_upto_if 27 with fail
  go_cut [4] (fun s wx => s = .bool false ∧ Below w.heap.size w wx)
  case first =>
    by_cases hc : c = 0
    · subst hc
      have HP := Lib.hid (HPP.out rfl)
      go_wp2_with fail
      refine (HP.out _ (HM.out.low HB1.out)).mono ?_
      rintro e w2 ⟨rfl, hb⟩
      have HB2 := Lib.hid (HB1.out.trans (hb.mono HB1.out.size))
      have HI2 := Lib.hid (HI1.out.low hb)
      clear hb
      have HB3 := Lib.hid (below_setRow (HB2.out.alloc HB2.out.size (.cells zeroI 24)) HB2.out.size (flA x))
      have HI3 := Lib.hid (CsAt.row (CsAt.new w2 24 zeroI) (flA x))
      have HI4 := Lib.hid (CsAt.rowFar (HI2.out.alloc (.cells zeroI 24)) (show w.heap.size ≠ w2.heap.size by have := lt_cell (HI2.out.cell 0); omega) (flA x))
      go_upto_region 6 with (refine wpList_store_row rfl 24 _ _ rfl w2.heap.size (flA x) rfl rfl 24 zeroI (CsAt.new w2 24 zeroI) info_ins rfl (by kernel_rfl) ?_)
      generalize (w2.alloc (.cells zeroI 24)).setRow w2.heap.size (flA x) = w3 at *
      generalize w2.heap.size = b2 at *
      obtain ⟨j0, j1, j2, j3, j4, j5, j6, j7⟩ := fl8_of HI3.out
      obtain ⟨k0, k1, k2, k3, k4, k5, k6, k7⟩ := fl8_of HI4.out
      go_wp2_with fail
      go_meet
      case rel => exact ⟨rfl, HB3.out⟩
    · have hc1 : (c == 0) = false := by rw [beq_eq_false_iff_ne]; exact hc
      go_wp2_with fail
      go_meet
      case rel => exact ⟨rfl, HB1.out⟩
  case rest =>
    obtain ⟨rfl, hbc⟩ := hcut
    have HBc := Lib.hid hbc
    clear hbc HB1 HI1 HPP
    rename_i wc
    go_wp2_with fail
    go_loopw [9, 10] (fun v i wr => ∃ k : Nat, k ≤ n ∧ i = .int .i64 k ∧ wr.ownsRow w.heap.size 42 1 v (inN (fil l k)).length ((inN (fil l k)).map (Value.int .u32)) ∧ Below w.heap.size w wr) (fun _ i _ => n - (intOf i).toNat)
    case atStart => exact ⟨0, Nat.zero_le _, rfl, World.ownsRow_nil _ _ _ _, HBc.out⟩
    case round =>
      obtain ⟨k, hk, rfl, hown, hb⟩ := hrel
      have HO := Lib.hid hown
      have HN := Lib.hid hb
      have hfl : (inN (fil l k)).length ≤ 60 := by unfold inN; rw [List.length_map]; have := fil_len l k; omega
      clear hown hb
      by_cases hlt : k < n
      · have hkl : k < l.length := by rw [HLN.out]; exact hlt
        obtain ⟨b0, off, rfl, hcc⟩ := (HWA.out.low HN.out) k hkl
        obtain ⟨X, hX⟩ : ∃ X, l.getD k 0 = X := ⟨_, rfl⟩
        rw [hX] at hcc
        have hXr := HWB.out X (by rw [← hX]; simp [List.getD, hkl])
        have hlt2 : (k : Int) < (n : Int) := by omega
        have hwr : IntKind.u64.wrap ((X : Nat) : Int) = ((X : Nat) : Int) := IntWalk.u64_in _ (by omega)
        have HRD := Lib.hid (fun W => refDecode_c X hXr W)
        have HCX := Lib.hid (show ∀ W, Below w.heap.size w W → W.cell? ⟨b0, off + k, none⟩ = some (.int .u32 ((X : Nat) : Int)) from fun W h => by
          obtain ⟨b1, off1, he, h1⟩ := (HWA.out.low h) k hkl
          cases he
          rw [hX] at h1
          exact h1)
        rcases keep_dec hXr with ⟨hkp, hd⟩ | ⟨y, hkp, hd⟩
        · rw [hd] at HRD
          have HF := Lib.hid (fil_no hkl hX hkp)
          clear hd hkp hX
          go_wp2_with fail
          refine (HRD.out _).mono ?_
          rintro e w1 ⟨rfl, hb⟩
          have HB1 := Lib.hid (HN.out.trans (hb.mono HN.out.size))
          have HO1 := Lib.hid (owns_low HO.out hb)
          clear hb hcc
          have hbx := below_setRow ((Below.refl w1.heap.size w1).alloc (Nat.le_refl _) (.cells zeroI 24)) (Nat.le_refl _) zeroI
          have HO2 := Lib.hid (owns_low HO1.out hbx)
          have HB2 := Lib.hid (HB1.out.trans (hbx.mono HB1.out.size))
          clear hbx
          go_upto_region 13 with (refine wpList_store_row rfl 24 _ _ rfl w1.heap.size zeroI rfl rfl 24 zeroI (CsAt.new w1 24 zeroI) info_ins rfl (by kernel_rfl) ?_)
          generalize (w1.alloc (.cells zeroI 24)).setRow w1.heap.size zeroI = w2 at *
          go_wp2_with fail
          go_roundw
          case rel => exact ⟨k + 1, by omega, by go_num, by rw [HF.out]; exact HO2.out, HB2.out⟩
          case measure => simp [intOf]; omega
        · rw [hd] at HRD
          have HF := Lib.hid (fil_yes hkl hX hkp)
          clear hd hkp hX
          go_wp2_with fail
          refine (HRD.out _).mono ?_
          rintro e w1 ⟨rfl, hb⟩
          have HB1 := Lib.hid (HN.out.trans (hb.mono HN.out.size))
          have HO1 := Lib.hid (owns_low HO.out hb)
          clear hb hcc
          have hbx := below_setRow ((Below.refl w1.heap.size w1).alloc (Nat.le_refl _) (.cells zeroI 24)) (Nat.le_refl _) (flA y)
          have HO2 := Lib.hid (owns_low HO1.out hbx)
          have HB2 := Lib.hid (HB1.out.trans (hbx.mono HB1.out.size))
          clear hbx
          go_upto_region 13 with (refine wpList_store_row rfl 24 _ _ rfl w1.heap.size (flA y) rfl rfl 24 zeroI (CsAt.new w1 24 zeroI) info_ins rfl (by kernel_rfl) ?_)
          generalize (w1.alloc (.cells zeroI 24)).setRow w1.heap.size (flA y) = w2 at *
          have hw2 := HB2.out.size
          have hcd := HCX.out _ HB2.out
          go_wp2_with (at_builtin; refine wpList_append_own _ rfl _ _ 35 rfl w.heap.size 42 i0 (.int .u32 0) 1 4 Tryz.underlying35 hi hz0 hz1 hz2 rfl (by decide) _ _ _ rfl (HO2.out.alloc _) ⟨w2.heap.size, 0, none⟩ 1 1 [.int .u32 ((X : Nat) : Int)] rfl rfl news_one (one_cell_k _ _) (by unfold maxLen; omega) (by omega) (by simp; omega) ?_; intro v' w6 hown' hgrow _)
          have R := Lib.hid (rel_n (X := X) hw2 HO2.out hown' hgrow HB2.out)
          clear hown' hgrow
          go_wp2_with fail
          go_roundw
          case rel => exact ⟨k + 1, by omega, by go_num, by rw [HF.out]; exact R.out.1, R.out.2⟩
          case measure => simp [intOf]; omega
      · obtain rfl : k = n := by omega
        have HFL := Lib.hid (show fil l k = l.filter keepB by rw [← HLN.out]; exact fil_all l)
        rw [HFL.out] at HO hfl
        have hFn : (l.filter keepB).length ≤ 60 := by unfold inN at hfl; rw [List.length_map] at hfl; exact hfl
        obtain ⟨ao2, cap2, rfl, hW2⟩ := words_own HO.out
        have HW2 := Lib.hid hW2
        have HBL := Lib.hid (back_list _ HFB.out HFK.out)
        have HLS := Lib.hid (listL_len _ HFB.out)
        have HLI := Lib.hid (fun W (h : MemW W) (hc : WordsAt W ao2 (l.filter keepB)) => listing_c ao2 cap2 _ (by omega) HFB.out W h hc)
        have HPW := Lib.hid (fun W (h : MemW W) => words_c (listL (l.filter keepB)) (by have := HLS.out; omega) W h)
        rw [HBL.out] at HPW
        clear hW2 HO hfl HFL HLS HBL HFK
        generalize bs6 (listL (l.filter keepB)) = LS at *
        generalize l.filter keepB = F at *
        obtain ⟨m, hmw⟩ : ∃ m, F.length = m := ⟨_, rfl⟩
        have HMW := Lib.hid hmw
        rw [hmw] at HLI hFn ⊢
        clear hmw
        go_wp2_with fail
        refine (HLI.out _ (HM.out.low HN.out) HW2.out).mono ?_
        rintro e w3 ⟨rfl, hb⟩
        have HB3 := Lib.hid (HN.out.trans (hb.mono HN.out.size))
        have HW3 := Lib.hid (HW2.out.low hb)
        clear hb
        go_wp2_with fail
        refine (HPW.out _ (HM.out.low HB3.out)).mono ?_
        rintro e w4 ⟨v4, ws, n4, er, rfl, hres, hown4, hb⟩
        simp only [resW, Prod.mk.injEq] at hres
        obtain ⟨rfl, rfl, rfl⟩ := hres
        obtain ⟨ao4, cap4, rfl, hN4⟩ := nums_own hown4
        have HB4 := Lib.hid (HB3.out.trans (hb.mono HB3.out.size))
        have HW4 := Lib.hid (HW3.out.low hb)
        have HN4 := Lib.hid hN4
        clear hb hN4 hown4
        rw [HMW.out]
        go_wp2_with fail
        go_loopw [16] (fun i wr => ∃ k : Nat, k ≤ m ∧ i = .int .i64 k ∧ Below w4.heap.size w4 wr) (fun i _ => m - (intOf i).toNat)
        case atStart => exact ⟨0, Nat.zero_le _, rfl, Below.refl _ _⟩
        case round =>
          obtain ⟨j, hj, rfl, hb⟩ := hrel
          have HBr := Lib.hid hb
          clear hb
          by_cases hlt : j < m
          · obtain ⟨g1, rfl, c1⟩ := HN4.out j (by rw [HMW.out]; exact hlt)
            obtain ⟨g2, off2, rfl, c2⟩ := HW4.out j (by rw [HMW.out]; exact hlt)
            have hlt2 : (j : Int) < (m : Int) := by omega
            generalize ((F.getD j 0 : Nat) : Int) = x5 at *
            have HC1 := Lib.hid (show ∀ W, Below w4.heap.size w4 W → W.cell? ⟨g1, j, none⟩ = some (.int .u32 x5) from fun W h => (h.cell (p := ⟨g1, j, none⟩) (lt_cell c1)).trans c1)
            have HC2 := Lib.hid (show ∀ W, Below w4.heap.size w4 W → W.cell? ⟨g2, off2 + j, none⟩ = some (.int .u32 x5) from fun W h => (h.cell (p := ⟨g2, off2 + j, none⟩) (lt_cell c2)).trans c2)
            clear c1 c2
            go_upto_region 21 with fail
            refine wp_region_steady (fun W => Below w4.heap.size w4 W) (by kernel_rfl) (by kernel_rfl) HBr.out.drew ?_
            iterate 9
              refine steady_val ?_ ?_ (by rfl) (fun W hS => ?_) ?_ ?_
              rotate_left 2
              · have c1 := HC1.out W hS
                have c2 := HC2.out W hS
                go_simp
                exact rfl
              · go_simp
                exact rfl
            refine steady_nil ?_
            rintro W hS
            have HBw := Lib.hid hS
            clear hS
            go_wp2_with fail
            go_roundw
            case rel => exact ⟨j + 1, by omega, by go_num, HBw.out⟩
            case measure => simp [intOf]; omega
          · obtain rfl : j = m := by omega
            have HB5 := Lib.hid (HB4.out.trans (HBr.out.mono HB4.out.size))
            go_wp2_with fail
            refine (live6_c _ (HM.out.low HB5.out).m).mono ?_
            rintro e w5 ⟨rfl, hb⟩
            have HB6 := Lib.hid (HB5.out.trans (hb.mono HB5.out.size))
            clear hb
            go_wp2_with fail
            go_ret
            exact ⟨rfl, HB6.out⟩
set_option maxHeartbeats 400000 in
theorem asmb_out (x : Fl) (ao : Option Addr) (n cap : Nat) (hn2 : n ≤ 9223372036854775807) (w : World) (hm : MemW w) (h : 60 < n) :
    Calls Tryz.prog 6 #[.agg (flA x), .slice ao n cap] w fun e w' => e = .returned (.bool true) ∧ Below w.heap.size w w' := by
  have HM := Lib.hid hm
  clear hm
  have el2 : decide (60 < (n : Int)) = true := by simp; omega
  have HB0 := Lib.hid ((Below.refl w.heap.size w).alloc (Nat.le_refl _) (.cells (flA x) 24))
  clear h
  go_enter Tryz.func6, Tryz.ntmps6
  go_wp2_with fail
  refine (live6_c _ (HM.out.low HB0.out).m).mono ?_
  rintro e w2 ⟨rfl, hb⟩
  have HB5 := Lib.hid (HB0.out.trans (hb.mono HB0.out.size))
  clear hb
  go_wp2_with fail
  go_ret
  exact ⟨rfl, HB5.out⟩
theorem asmb_walk (x0 x1 x2 x3 x4 x5 : Int) (x6 x7 : Bool) (hx : (-9223372036854775808 ≤ x1 ∧ x1 ≤ 9223372036854775807) ∧ (-9223372036854775808 ≤ x2 ∧ x2 ≤ 9223372036854775807) ∧ (-9223372036854775808 ≤ x3 ∧ x3 ≤ 9223372036854775807) ∧ (-9223372036854775808 ≤ x4 ∧ x4 ≤ 9223372036854775807) ∧ (-9223372036854775808 ≤ x5 ∧ x5 ≤ 9223372036854775807)) (ao : Option Addr) (n cap : Nat) (l : List Nat) (w : World) (hl : IsW w ao n l) (hm : MemW w) :
    Calls Tryz.prog 6 #[.agg #[.int .i64 x0, .int .i64 x1, .int .i64 x2, .int .i64 x3, .int .i64 x4, .int .i64 x5, .bool x6, .bool x7], .slice ao n cap] w fun e w' => e = .returned (.bool true) ∧ Below w.heap.size w w' := by
  by_cases h : 60 < n
  · exact asmb_out ⟨x0, x1, x2, x3, x4, x5, x6, x7⟩ ao n cap hl.2.1 w hm h
  · obtain ⟨rfl, -, hwa, hwb⟩ := hl
    obtain ⟨h1, h2, h3, h4, h5⟩ := hx
    have hf : FitI x1 x2 x3 x4 x5 := ⟨h1, h2, h3, h4, h5⟩
    by_cases hc : checkS x0 x1 x2 x3 x4 x5 x6 x7 = 0
    · refine aback_in ⟨x0, x1, x2, x3, x4, x5, x6, x7⟩ ao cap l w hm (by omega) hwa hwb (textS x0 x1 x2 x3 x4 x5 x6 x7) 0 (fun W h => text_yes x0 x1 x2 x3 x4 x5 x6 x7 W h.m.ok hf hc) (fun _ W h => ?_)
      have hbt := back_text ⟨x0, x1, x2, x3, x4, x5, x6, x7⟩ hc
      have hpr := parse_ref (textS x0 x1 x2 x3 x4 x5 x6 x7)
      rw [hbt] at hpr
      have hsz : (textS x0 x1 x2 x3 x4 x5 x6 x7).size < 4294967281 := by
        by_cases hb : 200 < (textS x0 x1 x2 x3 x4 x5 x6 x7).data.toList.length
        · unfold refE at hbt; rw [if_pos hb] at hbt; cases hbt
        · have : (textS x0 x1 x2 x3 x4 x5 x6 x7).size = (textS x0 x1 x2 x3 x4 x5 x6 x7).data.toList.length := rfl
          omega
      have hpc := parse_c (textS x0 x1 x2 x3 x4 x5 x6 x7) W hsz h.m.max h.m.ok h.m.errs
      rw [hpr] at hpc
      exact hpc
    · exact aback_in ⟨x0, x1, x2, x3, x4, x5, x6, x7⟩ ao cap l w hm (by omega) hwa hwb ⟨#[]⟩ (checkS x0 x1 x2 x3 x4 x5 x6 x7) (fun W h => text_no x0 x1 x2 x3 x4 x5 x6 x7 W h.m.ok hc) (fun h0 => absurd h0 hc)

set_option maxRecDepth 100000 in
theorem asmb_lifted (os : Os) (started : os.Started) (H : Type) (enc : TypeId × Value → H) :
    ReturnsInHanded {} Tryz.checked os 6 .any (fun w args => (Rows.asmBackSpec.pre enc Tryz.prog Tryz.f6 [] false w args ∧ laidMetH Tryz.prog laidB w) ∧ sizedMet enc Tryz.prog Tryz.f6 (OpenSpec.ofChange Rows.asmBackSpec) false w args)
      (Rows.asmBackSpec.post enc Tryz.prog Tryz.f6 false true false false) := by
  refine returns_and_shaped (C := Tryz.checked) (X := fun w _ => laidMetH Tryz.prog laidB w) (fun _ _ _ hh h => h.of_heap hh) own started (by kernel_rfl) Tryz.func6
    (ChangeSpec.witness_shaped (enc := enc) (C := Tryz.checked) (os := os) (X := fun w _ => laidMetH Tryz.prog laidB w) false ((World.doorLaid Tryz.prog 400 os).setRow 10 firstC) #[.agg #[.int .i64 0, .int .i64 0, .int .i64 0, .int .i64 0, .int .i64 0, .int .i64 0, .bool false, .bool false], .slice none 0 0] 8 rfl (World.shaped_of_RefB (by kernel_rfl) (by kernel_rfl)) (by kernel_rfl) (by kernel_rfl) (by kernel_rfl) (doorB_met os _)) ?_
  intro W base args ds gs before hval0 hW _ hL hsh
  have hval : ∀ (j : Nat) t v, Tryz.f6.params[j]? = some t → args[j]? = some v → Value.okWide Tryz.prog W .any base t v := hval0
  have hW' := hW
  obtain ⟨p, q, hA0, hV, rfl, hfz, hnd⟩ := hW
  have hA : DataW.TrodAll enc Tryz.prog W 0 (fun _ => true) true Tryz.f6.params.toList args.toList ds p := hA0
  rw [Tryz.params6] at hA hval
  obtain ⟨v0, vs0, d0, ds0, p0, q0, hargs, rfl, rfl, h0, r0⟩ := trodAll_cons hA
  obtain ⟨v1, vs1, d1, ds1, p1, q1, rfl, rfl, rfl, h1, r1⟩ := trodAll_cons r0
  obtain ⟨rfl, rfl, rfl⟩ := trodAll_nil r1
  obtain rfl : args = #[v0, v1] := by cases args; simp_all
  obtain ⟨rfl, rfl⟩ := trodVars_none hV
  have k0 := h0
  have lt0 : ∀ x ∈ p0, x.block < W.heap.size := by obtain ⟨m, hm⟩ := k0; exact DataW.trod_lt m _ _ _ hm
  obtain ⟨x0, x1, x2, x3, x4, x5, x6, x7, rfl, wx⟩ := open_insnB (hval 0 24 v0 rfl rfl) h0
  have k1 := h1
  have lt1 : ∀ x ∈ p1, x.block < W.heap.size := by obtain ⟨m, hm⟩ := k1; exact DataW.trod_lt m _ _ _ hm
  obtain ⟨ao1, n1, cap1, l1, rfl, w1⟩ := open_words (hval 1 35 v1 rfl rfl) h1
  have hvv := of_laidB hL hsh
  clear hA0 hval0
  refine (asmb_walk x0 x1 x2 x3 x4 x5 x6 x7 wx ao1 n1 cap1 l1 W w1 hvv).mono fun e W' ⟨he, bel⟩ => ?_
  subst he
  exact ⟨_, rfl, _, _, _, [], _, [], hW', trodAll_mk1 (shut_bool Tryz.underlying4 _), (trodAll_cons_mk (Below.trod laidOut (by kernel_rfl) (of_decide_eq_true (by kernel_rfl)) k0 bel lt0) (trodAll_cons_mk (Below.trod laidOut (by kernel_rfl) (of_decide_eq_true (by kernel_rfl)) k1 bel lt1) trodAll_mk0)), rfl, bel.frame _, fun h => by cases h⟩

theorem asmb_over : Rows.asmBackRow.holds Tryz.pinned (OpenSpec.ofChange Rows.asmBackSpec) :=
  OpenClaim.holds_of_wide 6 Tryz.f6 rfl rfl rfl rfl rfl rfl rfl ⟨rfl, rfl, rfl, rfl, rfl⟩ rfl rfl rfl rfl rfl (by kernel_rfl) Tryz.func6 (by kernel_rfl)
    (of_decide_eq_true (by kernel_rfl)) (by unfold Func.isWrapper; first | (rw [if_pos (by decide +kernel)]; kernel_rfl) | (rw [if_neg (by decide +kernel)]; exact ⟨rfl, rfl⟩))
    (fun os started H enc _ => asmb_lifted os started H enc)

theorem asmb_said : Rows.AsmBackCardSaid :=
  Claim7.holds_tied_plain_at .later [] [.data, .data, .data, .data, .data, .data, .sentinel, .sentinel, .data, .data, .pinned] true Rows.asmBackCard.stood.harness Rows.asmBackCard.stood.looks
    asmb_over (fun _ h => by cases h) (by kernel_rfl) (fun _ h => by cases h) asmBack_row_tie rfl ⟨rfl, rfl⟩ (by kernel_rfl) rfl
    (fun f fn hf hfn => by
      obtain rfl : f = 6 := Option.some.inj ((show Tryz.prog.funcNamed "roebuck/roebucklaw06.AsmBack" = some 6 by kernel_rfl).symm.trans hf) |>.symm
      obtain rfl : fn = Tryz.f6 := (Option.some.inj (Tryz.func6.symm.trans hfn)).symm
      exact ⟨by kernel_rfl, fun j t ht => by
        rw [Tryz.params6] at ht
        have hm : t ∈ [24, 35] := by simpa using Array.mem_of_getElem? ht
        have hall : ([24, 35].all fun u => !Tryz.prog.wantsStandIn u) = true := by kernel_rfl
        exact (show Tryz.prog.wantsStandIn t = false by simpa using List.all_eq_true.1 hall t hm)⟩)
    (by kernel_rfl)
end Go.Proofs.YthehcplogkgkeaaGreatDoor
