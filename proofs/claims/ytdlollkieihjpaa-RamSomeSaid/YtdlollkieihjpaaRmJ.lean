/-
  Layer 10: contract of Fill.
-/
import Derived.Test.YtdlollkieihjpaaRrF
namespace Go.Proofs.Ytdlollkieihjpaa
open Go.ChangeShapes Go.WideShapes Go.ChangeAt Go.RowKit Wd

theorem wpList_val {P : Program} {ops : Array Oper} {rest : List Oper} {o : Oper} {a : Act} {w w' : World} {Q : Exit → Act → World → Prop} (hg : o.guard = none) (v : Value) (hv : (execOp a.eval o).run P w = .ok (.value v) w')
    (h : wpList P ops Q rest (a.put o.dst v) w') : wpList P ops Q (o :: rest) a w :=
  wpList_plain hg fun K hK => by
    unfold Oper.wp
    rw [hv]
    exact hK _ _ h
/-- The line from a place on, as a slice. -/
theorem exec_slice_line {o : Oper} {a : Act} {w : World} (x l : Operand) (ho : o.op = .slice 49 x (some l) none none) (g p : Nat) (hp : p < 64) (hx : a.eval x = .pointer (some ⟨g, 0, none⟩)) (hl : a.eval l = .int .i64 (p : Int)) :
    (execOp a.eval o).run Try.prog w = .ok (.value (.slice (some ⟨g, p, none⟩) (64 - p) (64 - p))) w := by
  have hb : (Instr.sliceBounds false 64 64 (some (.int .i64 (p : Int))) none none).run Try.prog w = .ok (p, 64, 64) w := by
    simp [Instr.sliceBounds, run_sliceBound, (show (p : Int) ≤ 64 by omega)]
  have hne : ¬ 64 = p := by omega
  unfold execOp
  simp [ho, hx, hl, Instr.sliceAt, run_underlying Try.underlying49, Instr.sureAddr, hb, hne, add_plainL]
/-- The rest of a slice of bytes. -/
theorem exec_slice_rest {o : Oper} {a : Act} {w : World} (x l : Operand) (ho : o.op = .slice 24 x (some l) none none) (ad : Option Addr) (n c m : Nat) (hm : m ≤ n) (hx : a.eval x = .slice ad n c) (hl : a.eval l = .int .i64 (m : Int)) :
    (execOp a.eval o).run Try.prog w = .ok (.value (.slice (if c = m then ad else ad.map (·.add m)) (n - m) (c - m))) w := by
  have hb : (Instr.sliceBounds true n c (some (.int .i64 (m : Int))) none none).run Try.prog w = .ok (m, n, c) w := by
    simp [Instr.sliceBounds, run_sliceBound, (show (m : Int) ≤ n by omega)]
  unfold execOp
  simp [ho, hx, hl, Instr.sliceAt, Instr.slice, run_underlying Try.underlying24, hb]
theorem exec_slice_rest' {o : Oper} {a : Act} {w : World} (x l : Operand) (ho : o.op = .slice 24 x (some l) none none) (ad : Option Addr) (n c m : Nat) (hm : m ≤ n) (hx : a.eval x = .slice ad n c) (hl : a.eval l = .int .i64 (m : Int)) (V : Option Addr) (n' c' : Nat) (hV : (if c = m then ad else ad.map (·.add m)) = V) (hn : n - m = n') (hc : c - m = c') :
    (execOp a.eval o).run Try.prog w = .ok (.value (.slice V n' c')) w := by
  subst hV hn hc
  exact exec_slice_rest x l ho ad n c m hm hx hl
/-- Bytes laid into a line. -/
def ins (R : List Int) (p m : Nat) (f : Nat → Int) : List Int := Rm.mk 64 fun j => if p ≤ j ∧ j < p + m then f (j - p) else R.getD j 0
theorem ins_len (R : List Int) (p m : Nat) (f : Nat → Int) : (ins R p m f).length = 64 := Rm.mk_len _ _
theorem ins_get (R : List Int) (p m : Nat) (f : Nat → Int) (j : Nat) (hj : j < 64) : (ins R p m f).getD j 0 = if p ≤ j ∧ j < p + m then f (j - p) else R.getD j 0 := Rm.mk_get _ _ _ hj
theorem ins_is {R : List Int} (h : Ln.Is R) (p m : Nat) {f : Nat → Int} (hf : ∀ j, 0 ≤ f j ∧ f j ≤ 255) : Ln.Is (ins R p m f) := by
  refine ⟨ins_len _ _ _ _, fun x hx => ?_⟩
  obtain ⟨j, -, rfl⟩ := List.mem_map.1 hx
  split
  · exact hf _
  · exact is_rng h j
theorem ins_eq (R : List Int) (hR : R.length = 64) (p m : Nat) (f : Nat → Int) (h : p + m ≤ 64) : R.take p ++ (Rm.mk m f ++ R.drop (p + m)) = ins R p m f := by
  refine Rm.ext (by rw [ins_len]; simp [Rm.mk_len, hR]; omega) fun j hj => ?_
  have hj' : j < 64 := by simp [Rm.mk_len, hR] at hj; omega
  rw [ins_get _ _ _ _ _ hj']
  have hl : (R.take p).length = p := by rw [List.length_take]; omega
  by_cases c : j < p
  · rw [if_neg (by omega), List.getD, List.getElem?_append_left (by rw [hl]; exact c), List.getElem?_take, if_pos c]
    rfl
  · rw [List.getD, List.getElem?_append_right (by rw [hl]; omega), hl]
    by_cases d : j < p + m
    · rw [if_pos ⟨by omega, d⟩, List.getElem?_append_left (by rw [Rm.mk_len]; omega)]
      exact Rm.mk_get m f (j - p) (by omega)
    · rw [if_neg (by omega), List.getElem?_append_right (by rw [Rm.mk_len]; omega), Rm.mk_len, List.getElem?_drop, show p + m + (j - p - m) = j by omega]
      rfl
theorem wpList_copy_into {P : Program} {w : World} {ops : Array Oper} {rest : List Oper} {o : Oper} {a : Act} {Q : Exit → Act → World → Prop} (hgd : o.guard = none) (d s : Operand) (dT sT : TypeId)
    (ho : o.op = .call { callee := .builtin .copy, args := #[d, s], argTypes := #[dT, sT] }) (elem : TypeId) (hu : P.underlying dT = some (.slice elem)) (hsz : (P.info? elem).map (·.size) = some 1)
    (g p b off n c m : Nat) (f : Nat → Int) (hd : a.eval d = .slice (some ⟨g, p, none⟩) (64 - p) (64 - p)) (hs : a.eval s = .slice (some ⟨b, off, none⟩) n c) (hp : p < 64)
    (t : TypeId) (R : List Int) (hR : R.length = 64) (hg : RowAt .u8 w g t R) (hc : ∀ j, j < n → w.cell? ⟨b, off + j, none⟩ = some (.int .u8 (f j))) (hm : m = min n (64 - p))
    (h : wpList P ops Q rest (a.put o.dst (.int .i64 (m : Int))) (w.setRow g (aV .u8 (ins R p m f)))) : wpList P ops Q (o :: rest) a w := by
  have hl : ((Rm.mk m f).map (Value.int .u8)).length = m := by rw [List.length_map, Rm.mk_len]
  refine wpList_copy_own hgd d s dT sT ho elem hu hsz g p (64 - p) (64 - p) ⟨b, off, none⟩ n c hd hs (aV .u8 R) t hg ((Rm.mk m f).map (Value.int .u8)) (by rw [hl]; exact hm) (fun j v hv => ?_) (by rw [hl, aV_size, hR]; omega) (fun v hv => by obtain ⟨x, -, rfl⟩ := List.mem_map.1 hv; rfl) ?_
  · have hj : j < m := by
      have := (List.getElem?_eq_some_iff.1 hv).1
      rwa [hl] at this
    rw [add_plainL, hc j (by omega), ← hv, List.getElem?_map, ← Rm.mk_get m f j hj, List.getD, List.getElem?_eq_getElem (by rw [Rm.mk_len]; exact hj)]
    rfl
  · rw [hl]
    have e : ((aV .u8 R).toList.take p ++ ((Rm.mk m f).map (Value.int .u8) ++ (aV .u8 R).toList.drop (p + m))).toArray = aV .u8 (ins R p m f) := by
      rw [← ins_eq R hR p m f (by omega)]
      simp [aV]
    rw [e]
    exact h
/-- A line of laid bytes, with more of them laid into it. -/
theorem lay_ins {B : List Int} {n : Nat} (h : Rm.Ok B n) (a k i p m : Nat) (f : Nat → Int) (hak : 64 * i + p = a + k) (hpm : p + m ≤ 64) : Rm.setRow (Rm.lay B a k f) i (ins (Rm.row (Rm.lay B a k f) i) p m (fun j => f (k + j))) = Rm.lay B a (k + m) f := by
  have hlen : (Rm.setRow (Rm.lay B a k f) i (ins (Rm.row (Rm.lay B a k f) i) p m (fun j => f (k + j)))).length = 64 * n := by
    rw [show (Rm.setRow (Rm.lay B a k f) i (ins (Rm.row (Rm.lay B a k f) i) p m (fun j => f (k + j)))).length = (Rm.lay B a k f).length from Rm.mk_len _ _, Rm.lay_len, h.len]
  refine Rm.ext (by rw [hlen, Rm.lay_len, h.len]) fun j hj => ?_
  rw [hlen] at hj
  rw [Rm.lay_get h _ _ _ _ hj, show (Rm.setRow (Rm.lay B a k f) i (ins (Rm.row (Rm.lay B a k f) i) p m (fun j => f (k + j)))).getD j 0 = _ from Rm.mk_get _ _ _ (by rw [Rm.lay_len, h.len]; exact hj)]
  by_cases c : j / 64 = i
  · rw [if_pos c, ins_get _ _ _ _ _ (by omega), Rm.row_get _ _ _ (by omega), show 64 * i + j % 64 = j by omega, Rm.lay_get h _ _ _ _ hj]
    by_cases d : p ≤ j % 64 ∧ j % 64 < p + m
    · rw [if_pos d, if_pos (by omega)]
      congr 1
      omega
    · rw [if_neg d]
      by_cases e : a ≤ j ∧ j < a + k
      · rw [if_pos e, if_pos (by omega)]
      · rw [if_neg e, if_neg (by omega)]
  · rw [if_neg c, Rm.lay_get h _ _ _ _ hj]
    by_cases e : a ≤ j ∧ j < a + k
    · rw [if_pos e, if_pos (by omega)]
    · rw [if_neg e, if_neg (by omega)]
def sliceLen : Value → Nat
  | .slice _ n _ => n
  | _ => 0
set_option maxHeartbeats 4000000 in
theorem fill_c {w : World} {rb mb n : Nat} {B : List Int} (h : RamAt w rb mb n B) (x : Int) (hx : 0 ≤ x ∧ x < 18446744073709551616) {p : Option Addr} (cp : Nat) {bs : List Int} (hs : SlAt w p bs) (hl : bs.length ≤ 500) (hcp : bs.length ≤ cp) (hne : bs ≠ [] → ∀ b off, p = some ⟨b, off, none⟩ → b ≠ mb) :
    Calls Try.prog 22 #[.pointer (some ⟨rb, 0, none⟩), .int .u64 x, .slice p bs.length cp] w fun e w' => e = .returned (.bool (flB n x bs)) ∧ RamAt w' rb mb n (flV B n x bs) ∧ Only mb w w' := by
  have HH := Lib.hid h
  have HX := Lib.hid hx
  have HS := Lib.hid hs
  have HNE := Lib.hid hne
  have hn := h.n1
  have hlt := h.mlt
  have HK := Lib.hid h.ok
  clear h hx hs hne
  by_cases h0 : bs.length = 0
  · have HE := Lib.hid (show flB n x bs = true by unfold flB; rw [decide_eq_true h0]; rfl)
    have HV := Lib.hid (show flV B n x bs = B by unfold flV; rw [h0]; rfl)
    rw [HE.out, HV.out]
    have H0 := Lib.hid h0
    have g0 : ((bs.length : Int) == 0) = true := by simp [h0]
    clear h0
    go_enter Try.func22, Try.ntmps22
    go_wp2_with fail
    go_ret
    exact ⟨rfl, HH.out, Only.refl _ _⟩
  · have HE := Lib.hid (show flB n x bs = hasB n x (bs.length : Int) by unfold flB; rw [decide_eq_false h0]; rfl)
    rw [HE.out]
    have g0 : ((bs.length : Int) == 0) = false := by rw [beq_eq_false_iff_ne]; omega
    cases hf : hasB n x (bs.length : Int)
    · have HV := Lib.hid (show flV B n x bs = B by unfold flV; rw [hf]; rfl)
      have HF := Lib.hid hf
      rw [HV.out]
      clear hf
      go_enter Try.func22, Try.ntmps22
      go_wp2_with fail
      refine (has_c (lines_c HH.out) hn x _ HX.out ⟨by omega, by omega⟩).mono ?_
      rintro e w2 ⟨rfl, rfl⟩
      rw [HF.out]
      go_wp2_with fail
      go_ret
      exact ⟨rfl, HH.out, Only.refl _ _⟩
    · obtain ⟨a, rfl, hle⟩ := addr_fl hf
      have HF := Lib.hid hf
      obtain ⟨f, hfd⟩ : ∃ f : Nat → Int, (fun k => bs.getD k 0) = f := ⟨_, rfl⟩
      have HV := Lib.hid (show flV B n (2147483648 + (a : Int)) bs = Rm.lay B a bs.length f by
        rw [← hfd]
        unfold flV
        rw [hf, show (2147483648 + (a : Int) - 2147483648).toNat = a by omega]
        rfl)
      rw [HV.out]
      clear hf HV
      obtain ⟨b, off, rfl, hb0, hc⟩ := HS.out.at_.resolve_left (fun e => h0 (by rw [e]; rfl))
      have HCC := Lib.hid (show ∀ j, j < bs.length → w.cell? ⟨b, off + j, none⟩ = some (.int .u8 (f j)) from hfd ▸ hc)
      have HN2 := Lib.hid (HNE.out (fun e => h0 (by rw [e]; rfl)) b off rfl)
      have HRG := Lib.hid (show ∀ j, 0 ≤ f j ∧ f j ≤ 255 from hfd ▸ fun j => getD_rng HS.out.rng j)
      clear hfd
      have HFI := Lib.hid (show Calls Try.prog 34 #[.int .u64 (2147483648 + (a : Int))] w (fun e w' => e = .returned (.tuple #[.int .i64 ((a / 64 : Nat) : Int), .int .i64 ((a % 64 : Nat) : Int)]) ∧ w = w') by
        have := find_at (a / 64) (a % 64) (by omega) (by omega) w
        rwa [show 64 * (a / 64) + a % 64 = a by omega] at this)
      clear hc
      go_enter Try.func22, Try.ntmps22
      go_wp2_with fail
      refine (has_c (lines_c HH.out) hn _ _ HX.out ⟨by omega, by omega⟩).mono ?_
      rintro e w2 ⟨rfl, rfl⟩
      rw [HF.out]
      go_wp2_with fail
      refine HFI.out.mono ?_
      rintro e w2 ⟨rfl, rfl⟩
      clear HS HNE HFI
      have HZ := Lib.hid (show RamAt w rb mb n (Rm.lay B a 0 f) by rw [Rm.lay_zero]; exact HH.out)
      have hi0 : a / 64 ≤ 4096 := by omega
      have hp0 : a % 64 < 64 := by omega
      have ha0 : 64 * (a / 64) + a % 64 = a := by omega
      generalize a / 64 = i0 at *
      generalize a % 64 = p0 at *
      generalize hL : bs.length = L at *
      have HLL := Lib.hid hL
      clear hL
      go_wp2_with fail
      go_loopw [2, 7, 8] (fun v2 v7 v8 wr => ∃ (k r i q c : Nat) (V : Option Addr), k + r = L ∧ v2 = .slice V r c ∧ v7 = .int .i64 (i : Int) ∧ v8 = .int .i64 (q : Int) ∧ i ≤ 4096 ∧ (0 < r → V = some ⟨b, off + k, none⟩ ∧ r ≤ c ∧ 64 * i + q = a + k ∧ q < 64) ∧ RamAt wr rb mb n (Rm.lay B a k f) ∧ Only mb w wr) (fun v2 _ _ _ => sliceLen v2)
      case atStart => exact ⟨0, L, i0, p0, cp, _, by omega, rfl, rfl, rfl, by omega, fun _ => ⟨rfl, hcp, by omega, hp0⟩, HZ.out, Only.refl _ _⟩
      case round =>
        obtain ⟨k, r, i, q, c, V, hkr, rfl, rfl, rfl, hi4, hpos, hR, hO⟩ := hrel
        have HR' := Lib.hid hR
        have HO' := Lib.hid hO
        clear hR hO
        by_cases hr : 0 < r
        · obtain ⟨rfl, hrc, hiq, hq⟩ := hpos hr
          have g3 : decide (0 < r) = true := by simpa using hr
          have hin : i < n := by omega
          clear hpos
          go_wp2_with fail
          refine (line_yes HR'.out i hin).mono ?_
          rintro e w2 ⟨rfl, hb2⟩
          have H2 := Lib.hid (HR'.out.low hb2)
          have HB2 := Lib.hid hb2
          have HIS := Lib.hid (Rm.row_is HR'.out.ok i)
          have hsz := hb2.size
          clear hb2
          go_upto_region 9 with (refine wpList_storeNew rfl 49 _ _ rfl _ _ _ rfl rfl (iL (row_len _ _)) (zeros_size (row_len _ _)) (aV_one _ _) ?_)
          have hBa := (Below.refl w2.heap.size w2).alloc (Nat.le_refl _) (.cells (aV .u8 (Rm.row (Rm.lay B a k f) i)) 49)
          have HR3 := Lib.hid (RowAt.new .u8 w2 49 (Rm.row (Rm.lay B a k f) i))
          have HB3 := Lib.hid (HB2.out.trans (hBa.mono HB2.out.size))
          clear hBa H2
          generalize w2.alloc (.cells (aV .u8 (Rm.row (Rm.lay B a k f) i)) 49) = w3 at *
          obtain ⟨m, hm⟩ : ∃ m, m = min r (64 - q) := ⟨_, rfl⟩
          have HM := Lib.hid hm
          have hm1 : 0 < m := by omega
          have hm2 : m ≤ r := by omega
          have hm3 : q + m ≤ 64 := by omega
          have hm4 : m < r → q + m = 64 := by omega
          have HM4 := Lib.hid hm4
          clear hm hm4
          have HCS := Lib.hid (show ∀ j, j < r → w3.cell? ⟨b, off + k + j, none⟩ = some (.int .u8 (f (k + j))) by
            intro j hj
            have o3 := HO'.out.trans (Only.of_below HB3.out)
            rw [o3.cell (p := ⟨b, off + k + j, none⟩) hb0 HN2.out, Nat.add_assoc]
            exact HCC.out (k + j) (by omega))
          go_upto_region 10 with (first | (refine wpList_val rfl _ (exec_slice_line _ _ rfl w2.heap.size q hq rfl rfl) ?_) | (refine wpList_copy_into rfl _ _ 24 24 rfl 5 Try.underlying24 (by kernel_rfl) w2.heap.size q b (off + k) r c m (fun j => f (k + j)) rfl rfl hq 49 _ (row_len _ _) HR3.out HCS.out HM.out ?_))
          have HR4 := Lib.hid (HR3.out.row (ins (Rm.row (Rm.lay B a k f) i) q m (fun j => f (k + j))))
          have HB4 := Lib.hid (below_setRow HB3.out hsz (aV .u8 (ins (Rm.row (Rm.lay B a k f) i) q m (fun j => f (k + j)))))
          generalize w3.setRow w2.heap.size (aV .u8 (ins (Rm.row (Rm.lay B a k f) i) q m (fun j => f (k + j)))) = w4 at *
          have H4 := Lib.hid (HR'.out.low HB4.out)
          have HIL := Lib.hid (ins_is HIS.out q m (f := fun j => f (k + j)) (fun j => HRG.out (k + j)))
          have HLI := Lib.hid (lay_ins HK.out a k i q m f hiq hm3)
          clear HR3 HB3 HCS
          go_wp2_with (refine wpList_load_row rfl 49 _ rfl w2.heap.size rfl 49 _ (0, 0) _ HR4.out Try.underlying49 rfl (iL (ins_len _ _ _ _)) ?_)
          refine (setLine_c H4.out i hin HIL.out).mono ?_
          rintro e w5 ⟨rfl, h5, o5⟩
          have H5 := Lib.hid (show RamAt w5 rb mb n (Rm.lay B a (k + m) f) from HLI.out ▸ h5)
          have HO5 := Lib.hid ((HO'.out.trans (Only.of_below HB4.out)).trans o5)
          clear h5 o5
          obtain ⟨V, hV⟩ : ∃ V : Option Addr, (if c = m then some ⟨b, off + k, none⟩ else (some (⟨b, off + k, none⟩ : Addr)).map (·.add m)) = V := ⟨_, rfl⟩
          obtain ⟨r', hr'⟩ : ∃ r', r - m = r' := ⟨_, rfl⟩
          obtain ⟨c', hc'⟩ : ∃ c', c - m = c' := ⟨_, rfl⟩
          have HVV := Lib.hid hV
          have HRR := Lib.hid hr'
          have HCQ := Lib.hid hc'
          clear hV hr' hc'
          go_wp2_with (refine wpList_val rfl _ (exec_slice_rest' _ _ rfl (some ⟨b, off + k, none⟩) r c m hm2 rfl rfl V r' c' HVV.out HRR.out HCQ.out) ?_)
          go_roundw
          case rel =>
            have e1 := HRR.out
            have e2 := HCQ.out
            refine ⟨k + m, r', i + 1, 0, c', V, by omega, rfl, by go_num, rfl, by omega, fun h => ⟨?_, by omega, ?_, by omega⟩, H5.out, HO5.out⟩
            · rw [← HVV.out, if_neg (by omega)]
              show some ((⟨b, off + k, none⟩ : Addr).add m) = _
              rw [add_plainL, Nat.add_assoc]
            · have := HM4.out (by omega)
              omega
          case measure => have e1 := HRR.out; simp [sliceLen]; omega
        · obtain rfl : r = 0 := by omega
          obtain rfl : k = L := by omega
          go_wp2_with fail
          go_ret
          exact ⟨rfl, by rw [HLL.out]; exact HR'.out, HO'.out⟩
end Go.Proofs.Ytdlollkieihjpaa
