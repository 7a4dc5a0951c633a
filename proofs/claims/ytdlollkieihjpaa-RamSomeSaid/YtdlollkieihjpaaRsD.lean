/-
  The law RamSome, walked.
-/
import Derived.Test.YtdlollkieihjpaaRsC
namespace Go.Proofs.Ytdlollkieihjpaa
open Go.ChangeShapes Go.WideShapes Go.ChangeAt Go.RowKit Wd

set_option maxRecDepth 100000 in
set_option maxHeartbeats 4000000 in
theorem somes_walk (w : World) (ao : Option Addr) (n cap : Nat) (l : List Deed) (most : Int) (hl : Deeds w ao n l) (_hm : -9223372036854775808 ≤ most ∧ most ≤ 9223372036854775807) :
    Calls Try.prog 4 #[.slice ao n cap, .int .i64 most] w fun e w' => e = .returned (.bool true) ∧ Below w.heap.size w w' := by
  have hB := (Below.refl w.heap.size w).alloc (Nat.le_refl _) (.cells #[.int .i64 most] 3)
  have HB := Lib.hid hB
  have HM := Lib.hid (CsAt.new w 3 #[.int .i64 most])
  have HL := Lib.hid hl
  have HZL := Lib.hid (show hasN 0 2147483648 1 = false by decide)
  have HZB := Lib.hid (show hasB 0 2147483648 1 = false by decide)
  have hnil : ∀ (p : Nat) (W : World), (binOp .eql 54 (.func (.func 39) #[] #[.pointer (some ⟨p, 0, none⟩)]) .nilFunc).run Try.prog W = .ok (.bool false) W := fun p W => by kernel_rfl
  clear hB hl
  go_enter Try.func4, Try.ntmps4
  go_upto_region 2 with (fail)
  generalize w.alloc (.cells #[.int .i64 most] 3) = w1 at *
  go_wp2_with fail
  refine (load_no (nilV w1) (by decide) 2147483648 1 (by decide) (by decide) HZL.out).mono ?_
  rintro e w2 ⟨rfl, rfl⟩
  go_wp2_with fail
  refine (lines_nil w1).mono ?_
  rintro e w2 ⟨rfl, rfl⟩
  go_wp2_with fail
  refine (has_c (nilV w1) (by decide) 2147483648 1 (by decide) (by decide)).mono ?_
  rintro e w2 ⟨rfl, rfl⟩
  rw [HZB.out]
  go_wp2_with fail
  refine (store_no (nilV w1) (by decide) 2147483648 1 1 (by decide) (by decide) HZL.out).mono ?_
  rintro e w2 ⟨rfl, rfl⟩
  go_wp2_with fail
  refine (line_nil 0 w1).mono ?_
  rintro e w2 ⟨rfl, hb⟩
  have HM2 := Lib.hid (HM.out.low hb)
  have HB2 := Lib.hid (HB.out.trans (hb.mono HB.out.size))
  clear hb HM HB
  go_wp2_with (first
  | (refine wpList_valW (by rfl) _ (exec_buildZ rfl) ?_)
  | (refine wpList_valW (by rfl) (.bool false) (exec_cmp .neq 49 _ _ _ rfl _ _ rfl rfl guard_line _ (ne_is _ _ _ zeros_len zeros_len _ rfl)) ?_))
  refine (setLine_no (fun W _ => nilV W) 0 (by decide) (List.replicate 64 0)).mono ?_
  rintro e w3 ⟨rfl, hb⟩
  have HM3 := Lib.hid (HM2.out.low hb)
  have HB3 := Lib.hid (HB2.out.trans (hb.mono HB2.out.size))
  clear hb HM2 HB2
  go_wp2_with fail
  refine (fill_nil 2147483648 w3).mono ?_
  rintro e w4 ⟨rfl, rfl⟩
  go_wp2_with fail
  refine (clone_nil w3).mono ?_
  rintro e w4 ⟨rfl, rfl⟩
  go_wp2_with fail
  refine (same_nils w3).mono ?_
  rintro e w4 ⟨rfl, hb⟩
  have HM4 := Lib.hid (HM3.out.low hb)
  have HB4 := Lib.hid (HB3.out.trans (hb.mono HB3.out.size))
  have HL4 := Lib.hid (HL.out.low HB4.out)
  have hm4 := HM4.out.lt
  clear hb HM3 HB3
  go_wp2_with fail
  refine (great_c cap HL4.out).mono ?_
  rintro e w5 ⟨rfl, rfl⟩
  cases hg : greatB l
  case true =>
    have HG := Lib.hid hg
    clear hg
    go_wp2_with fail
    refine (live10_c _).mono ?_
    rintro e w5 ⟨rfl, hb⟩
    have HB5 := Lib.hid (HB4.out.trans (hb.mono HB4.out.size))
    clear hb
    go_wp2_with fail
    go_ret
    exact ⟨rfl, HB5.out⟩
  case false =>
    have HG := Lib.hid hg
    clear hg
    by_cases hn20 : 20 < n
    · have g1 : decide (20 < n) = true := by simpa using hn20
      have g1' : decide (20 < (n : Int)) = true := by simp; omega
      go_wp2_with fail
      refine (live10_c _).mono ?_
      rintro e w5 ⟨rfl, hb⟩
      have HB5 := Lib.hid (HB4.out.trans (hb.mono HB4.out.size))
      clear hb
      go_wp2_with fail
      go_ret
      exact ⟨rfl, HB5.out⟩
    · have g1 : decide (20 < n) = false := by simpa using hn20
      have g1' : decide (20 < (n : Int)) = false := by simp; omega
      go_wp2_with fail
      refine (new_c 30 (by decide) (by decide) w4).mono ?_
      rintro e w5 ⟨rfl, hr, hb⟩
      have HR5 := Lib.hid hr
      have HM5 := Lib.hid (HM4.out.low hb)
      have HB5 := Lib.hid (HB4.out.trans (hb.mono HB4.out.size))
      have hs5 := hr.lt
      clear hb hr HM4 HB4 HL4
      go_wp2_with fail
      refine (rnew_c 30 (by decide) (by decide) w5).mono ?_
      rintro e w6 ⟨g, cx, rfl, hg, hf, hb⟩
      have HR6 := Lib.hid (HR5.out.low hb)
      have HM6 := Lib.hid (HM5.out.low hb)
      have HB6 := Lib.hid (HB5.out.trans (hb.mono HB5.out.size))
      have HF6 := Lib.hid hf
      have hs6 := hf.lt
      clear hb hf HR5 HM5 HB5
      unfold mV
      go_upto_region 9 with (fail)
      have HS := Lib.hid (show Ss w most (w4.heap.size + 1) w4.heap.size g w6.heap.size 30 cx (playAll 30 (Rm.nought 30) (l.take 0)) (w6.alloc (.cells #[.slice (some ⟨g, 0, none⟩) 1920 cx] 34)) by
        have hb := (Below.refl w6.heap.size w6).alloc (Nat.le_refl _) (.cells #[.slice (some ⟨g, 0, none⟩) (64 * 30) cx] 34)
        exact ⟨HR6.out.low hb, HF6.out.low hb, HM6.out.low hb, CsAt.new w6 _ _, HB6.out.trans (hb.mono HB6.out.size)⟩)
      have hg1 : w4.heap.size + 1 < g := by omega
      clear HR6 HF6 HM6 HB6
      generalize w6.alloc (.cells #[.slice (some ⟨g, 0, none⟩) 1920 cx] 34) = w7 at *
      generalize w6.heap.size = xb at *
      generalize w4.heap.size = mb at *
      clear hs5 hg
      go_wp2_with fail
      refine (same_nil1 _ w7).mono ?_
      rintro e w8 ⟨rfl, hb⟩
      have HS8 := Lib.hid (HS.out.low hb)
      clear hb HS
      go_wp2_with fail
      refine (same_nil2 _ w8).mono ?_
      rintro e w9 ⟨rfl, hb⟩
      have HS9 := Lib.hid (HS8.out.low hb)
      clear hb HS8
      go_wp2_with fail
      go_loopw [11] (fun i wr => ∃ k : Nat, k ≤ n ∧ i = .int .i64 (k : Int) ∧ Ss w most (mb + 1) mb g xb 30 cx (playAll 30 (Rm.nought 30) (l.take k)) wr) (fun i _ => n - (intOf i).toNat)
      case atStart => exact ⟨0, by omega, rfl, HS9.out⟩
      case round =>
        obtain ⟨k, hk, rfl, hst⟩ := hrel
        have HT := Lib.hid hst
        clear hst HS9
        by_cases hlt : k < n
        · have k1 : decide (k < n) = true := by simpa using hlt
          have hki : (k : Int) < (n : Int) := by omega
          obtain ⟨b, off, rfl, hb, hc⟩ := HL.out.at_ (by omega)
          have HIN := Lib.hid (HL.out.each k hlt)
          have HLE := Lib.hid ((greatB_no HG.out).2 k (by rw [HL.out.len]; exact hlt))
          have HSN := Lib.hid (playAll_snoc 30 (Rm.nought 30) l k (by rw [HL.out.len]; exact hlt))
          have HCC := Lib.hid (hc k hlt)
          clear hc
          generalize l.getD k d0 = d at *
          generalize hP : playAll 30 (Rm.nought 30) (l.take k) = P at *
          have HPP := Lib.hid hP
          clear hP
          have HLD := Lib.hid (show ∀ W, Ss w most (mb + 1) mb g xb 30 cx P W → ∀ j v, d.cells[j]? = some v → W.cell? ⟨b, off + k * 5 + j, none⟩ = some v by
            intro W hS j v hv
            have hj : j < 5 := (Array.getElem?_eq_some_iff.1 hv).1
            rw [hS.b.cell (p := ⟨b, off + k * 5 + j, none⟩) hb, HCC.out j hj, hv])
          go_upto_region 14 with (fail)
          refine wp_region_steady_tail (fun W => Ss w most (mb + 1) mb g xb 30 cx P W) 6 (by kernel_rfl) (by kernel_rfl) (HT.out.low (Below.refl _ _).drew) ?_
          iterate 5
            refine steady_val ?_ ?_ (by kernel_rfl) (fun W hS => ?_) ?_ ?_
            rotate_left 2
            · have c0 := hS.x.cell 0; go_simp
              exact rfl
            · go_simp
              exact rfl
          refine steady_val (.agg d.cells) ?_ (by kernel_rfl) (fun W hS => exec_load_mid _ _ rfl b (off + k * 5) rfl d.cells _ (HLD.out W hS) Try.underlying26 rfl info_deed) ?_ ?_
          rotate_left 1
          · go_simp
            exact rfl
          refine steady_nil ?_
          intro W hS
          simp only [List.drop_succ_cons, List.drop_zero]
          have HW := Lib.hid hS
          clear hS HT HLD
          go_wp2_with fail
          refine (HW.out.does d HIN.out HLE.out hm4 (by omega) (by omega) (by omega)).mono ?_
          rintro e W2 ⟨rfl, h2s⟩
          have HW2 := Lib.hid h2s
          clear h2s HW
          go_wp2_with fail
          go_roundw
          case rel => exact ⟨k + 1, by omega, by go_num, by rw [HSN.out]; exact HW2.out⟩
          case measure => simp [intOf]; omega
        · have k1 : decide (k < n) = false := by simpa using hlt
          obtain rfl : k = n := by omega
          have HT2 := Lib.hid (show Ss w most (mb + 1) mb g xb 30 cx (playAll 30 (Rm.nought 30) l) wr by have := HT.out; rwa [List.take_of_length_le (Nat.le_of_eq HL.out.len)] at this)
          clear HT
          generalize playAll 30 (Rm.nought 30) l = P at *
          go_wp2_with fail
          refine (some_c _ wr).mono ?_
          rintro e w10 ⟨rfl, rfl⟩
          go_upto_region 21 with (fail)
          have HF := Lib.hid (show Cb ((((wr.alloc (.cells #[.pointer (some ⟨mb + 1, 0, none⟩)] 27)).alloc (.cells #[.int .i64 0] 3)).alloc (.cells #[.int .i64 (-1)] 3)).alloc (.cells #[.bool true] 4)) (wr.heap.size + 1) 0 (-1) by
            refine ⟨?_, ?_, ?_⟩
            · simpa using ((CsAt.new (wr.alloc (.cells #[.pointer (some ⟨mb + 1, 0, none⟩)] 27)) 3 #[.int .i64 0]).alloc (.cells #[.int .i64 (-1)] 3)).alloc (.cells #[.bool true] 4)
            · simpa using (CsAt.new ((wr.alloc (.cells #[.pointer (some ⟨mb + 1, 0, none⟩)] 27)).alloc (.cells #[.int .i64 0] 3)) 3 #[.int .i64 (-1)]).alloc (.cells #[.bool true] 4)
            · simpa using CsAt.new (((wr.alloc (.cells #[.pointer (some ⟨mb + 1, 0, none⟩)] 27)).alloc (.cells #[.int .i64 0] 3)).alloc (.cells #[.int .i64 (-1)] 3)) 4 #[.bool true])
          have hbw := ((((Below.refl wr.heap.size wr).alloc (Nat.le_refl _) (.cells #[.pointer (some ⟨mb + 1, 0, none⟩)] 27)).alloc (by simp) (.cells #[.int .i64 0] 3)).alloc (by simp; omega) (.cells #[.int .i64 (-1)] 3)).alloc (by simp; omega) (.cells #[.bool true] 4)
          have HSA := Lib.hid (HT2.out.low hbw)
          have HBB := Lib.hid (((CsAt.new wr 27 #[.pointer (some ⟨mb + 1, 0, none⟩)]).alloc (.cells #[.int .i64 0] 3)).alloc (.cells #[.int .i64 (-1)] 3) |>.alloc (.cells #[.bool true] 4))
          have hxl := HT2.out.x.lt
          clear hbw HT2
          generalize (((wr.alloc (.cells #[.pointer (some ⟨mb + 1, 0, none⟩)] 27)).alloc (.cells #[.int .i64 0] 3)).alloc (.cells #[.int .i64 (-1)] 3)).alloc (.cells #[.bool true] 4) = w11 at *
          have HX := Lib.hid (show Cx w11 (mb + 1) mb g xb wr.heap.size w.heap.size cx P most from ⟨HSA.out.ram, HSA.out.ref, HSA.out.x, HSA.out.o, HBB.out⟩)
          have HBA := Lib.hid HSA.out.b
          clear HSA HBB
          generalize hbq : wr.heap.size = bb at *
          clear hbq
          go_wp2_with fail
          refine (some1_c HF.out HX.out (by omega) (by omega) (by omega) (by omega) (by omega) (by omega)).mono ?_
          rintro e w12 ⟨rfl, ⟨last, hc⟩, hb⟩
          have HC12 := Lib.hid hc
          have HX12 := Lib.hid (HX.out.on hb (by omega) (by omega) (by omega) (by omega) (by omega) (by omega))
          have HB12 := Lib.hid (HBA.out.trans (hb.mono (by omega)))
          clear hc hb HF HX HBA
          go_wp2_with fail
          go_loopw [16, 17] (fun c t wr => ∃ j : Nat, j ≤ 30 ∧ t = .int .i64 (j : Int) ∧ c = .int .i64 (Rm.cnt P j : Nat) ∧ Cb wr (bb + 1) (wantC P most) last ∧ Cx wr (mb + 1) mb g xb bb w.heap.size cx P most ∧ Below w.heap.size w wr) (fun _ t _ => 30 - (intOf t).toNat)
          case atStart => exact ⟨0, by decide, rfl, rfl, HC12.out, HX12.out, HB12.out⟩
          case round =>
            obtain ⟨j, hj, rfl, rfl, hc, hx, hb⟩ := hrel
            have HC := Lib.hid hc
            have HX := Lib.hid hx
            have HB := Lib.hid hb
            have hle := cnt_small P j
            clear hc hx hb HC12 HX12 HB12
            by_cases hj2 : j < 30
            · have hj3 : (j : Int) < 30 := by omega
              have e1 : decide ((j : Int) < 30) = true := by simp; omega
              have HRO := Lib.hid (row_at (B := P) (n := 30) j hj2)
              have c0 := HX.out.x.cell 0
              go_wp2_with fail
              refine (rline_c cx HX.out.ref (j : Int) ⟨by omega, by omega⟩).mono ?_
              rintro e w13 ⟨rfl, hb⟩
              rw [HRO.out]
              have hlc := HC.out.n.lt
              have HC3 := Lib.hid (HC.out.low hb)
              have HX3 := Lib.hid (HX.out.on hb (by omega) (by omega) (by omega) (by omega) (by omega) (by omega))
              have HB3 := Lib.hid (HB.out.trans (hb.mono HB.out.size))
              clear hb c0
              have hfc : Rm.full P j = true ∨ Rm.full P j = false := by cases Rm.full P j <;> simp
              rcases hfc with hf | hf
              · have HQ := Lib.hid (show (!(Rm.row P j == List.replicate 64 (0 : Int))) = true from hf)
                have HC1 := Lib.hid (show Rm.cnt P (j + 1) = Rm.cnt P j + 1 by show Rm.cnt P j + (Rm.full P j).toNat = _; rw [hf]; rfl)
                clear hf
                go_wp2_with (first
                | (refine wpList_valW (by rfl) _ (exec_buildA rfl) ?_)
                | (refine wpList_valW (by rfl) (.bool true) (exec_cmp .neq 48 _ _ _ rfl _ _ rfl rfl guard_arr _ (ne_arr _ _ _ (row_len _ _) zeros_len _ HQ.out)) ?_))
                go_roundw
                case rel => exact ⟨j + 1, by omega, by go_num, by rw [HC1.out]; go_num, HC3.out, HX3.out, HB3.out⟩
                case measure => simp [intOf]; omega
              · have HQ := Lib.hid (show (!(Rm.row P j == List.replicate 64 (0 : Int))) = false from hf)
                have HC1 := Lib.hid (show Rm.cnt P (j + 1) = Rm.cnt P j by show Rm.cnt P j + (Rm.full P j).toNat = _; rw [hf]; rfl)
                clear hf
                go_wp2_with (first
                | (refine wpList_valW (by rfl) _ (exec_buildA rfl) ?_)
                | (refine wpList_valW (by rfl) (.bool false) (exec_cmp .neq 48 _ _ _ rfl _ _ rfl rfl guard_arr _ (ne_arr _ _ _ (row_len _ _) zeros_len _ HQ.out)) ?_))
                go_roundw
                case rel => exact ⟨j + 1, by omega, by go_num, by rw [HC1.out], HC3.out, HX3.out, HB3.out⟩
                case measure => simp [intOf]; omega
            · obtain rfl : j = 30 := by omega
              have HW := Lib.hid (show wantC P most = if 0 < most ∧ most < (Rm.cnt P 30 : Nat) then most else (Rm.cnt P 30 : Nat) from rfl)
              have cn := HC.out.n.cell 0
              have cf := HC.out.f.cell 0
              have cm := HX.out.m.cell 0
              generalize hcc : ((Rm.cnt P 30 : Nat) : Int) = c at *
              have HCC := Lib.hid hcc
              clear hcc
              by_cases h1 : 0 < most
              · have e1 : decide (0 < most) = true := by simpa using h1
                by_cases h2 : most < c
                · have e2 : decide (most < c) = true := by simpa using h2
                  rw [HW.out, if_pos ⟨h1, h2⟩] at cn
                  have q1 : (most == most) = true := by simp
                  clear h1 h2
                  go_wp2_with fail
                  refine (live10_c _).mono ?_
                  rintro e w14 ⟨rfl, hb⟩
                  have HB4 := Lib.hid (HB.out.trans (hb.mono HB.out.size))
                  clear hb
                  go_wp2_with fail
                  go_ret
                  exact ⟨rfl, HB4.out⟩
                · have e2 : decide (most < c) = false := by simpa using h2
                  rw [HW.out, if_neg (fun h => h2 h.2)] at cn
                  have q1 : (c == c) = true := by simp
                  clear h1 h2
                  go_wp2_with fail
                  refine (live10_c _).mono ?_
                  rintro e w14 ⟨rfl, hb⟩
                  have HB4 := Lib.hid (HB.out.trans (hb.mono HB.out.size))
                  clear hb
                  go_wp2_with fail
                  go_ret
                  exact ⟨rfl, HB4.out⟩
              · have e1 : decide (0 < most) = false := by simpa using h1
                rw [HW.out, if_neg (fun h => h1 h.1)] at cn
                have q1 : (c == c) = true := by simp
                clear h1
                go_wp2_with fail
                refine (live10_c _).mono ?_
                rintro e w14 ⟨rfl, hb⟩
                have HB4 := Lib.hid (HB.out.trans (hb.mono HB.out.size))
                clear hb
                go_wp2_with fail
                go_ret
                exact ⟨rfl, HB4.out⟩
end Go.Proofs.Ytdlollkieihjpaa
