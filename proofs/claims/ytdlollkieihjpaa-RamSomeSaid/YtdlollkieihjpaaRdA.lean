/-
  The law of layer 10: what is done to both memories.
-/
import Derived.Test.YtdlollkieihjpaaRmJ
import Derived.Test.YtdlollkieihjpaaPhase
namespace Go.Proofs.Ytdlollkieihjpaa
open Go.ChangeShapes Go.WideShapes Go.ChangeAt Go.RowKit Wd

theorem setLine_all {w : World} {rb mb n : Nat} {B : List Int} (h : RamAt w rb mb n B) (i : Int) {l : List Int} (hl : Ln.Is l) : Calls Try.prog 21 #[.pointer (some ⟨rb, 0, none⟩), .int .i64 i, .agg (aV .u8 l)] w
    fun e w' => e = .returned (.bool (decide (0 ≤ i ∧ i < (n : Int)))) ∧ RamAt w' rb mb n (setLV B n i l) ∧ Only mb w w' := by
  by_cases hr : 0 ≤ i ∧ i < (n : Int)
  · obtain ⟨i, rfl⟩ : ∃ j : Nat, i = (j : Int) := ⟨i.toNat, by omega⟩
    rw [decide_eq_true hr, show setLV B n (i : Int) l = Rm.setRow B i l by unfold setLV; rw [if_pos hr]; rfl]
    exact setLine_c h i (by omega) hl
  · rw [decide_eq_false hr, show setLV B n i l = B by unfold setLV; rw [if_neg hr]]
    exact (setLine_no (fun W hb => lines_c (h.low hb)) i hr l).mono fun e w' ⟨he, hb⟩ => ⟨he, h.low hb, Only.of_below hb⟩
/-- Two blocks change. -/
structure Two (b c : Nat) (w w' : World) : Prop where
  os : w'.os = w.os
  tape : w'.tape = w.tape
  output : w'.output = w.output
  size : w.heap.size ≤ w'.heap.size
  block : ∀ k, k < w.heap.size → k ≠ b → k ≠ c → w'.heap[k]? = w.heap[k]?
theorem Two.refl (b c : Nat) (w : World) : Two b c w w := ⟨rfl, rfl, rfl, Nat.le_refl _, fun _ _ _ _ => rfl⟩
theorem Two.trans {b c : Nat} {u v w : World} (h : Two b c u v) (k : Two b c v w) : Two b c u w :=
  ⟨k.os.trans h.os, k.tape.trans h.tape, k.output.trans h.output, Nat.le_trans h.size k.size, fun j hj h1 h2 => (k.block j (Nat.lt_of_lt_of_le hj h.size) h1 h2).trans (h.block j hj h1 h2)⟩
theorem Two.left {b c : Nat} {w w' : World} (h : Only b w w') : Two b c w w' := ⟨h.os, h.tape, h.output, h.size, fun k hk h1 _ => h.block k hk h1⟩
theorem Two.right {b c : Nat} {w w' : World} (h : Only c w w') : Two b c w w' := ⟨h.os, h.tape, h.output, h.size, fun k hk _ h2 => h.block k hk h2⟩
theorem Two.of_below {b c : Nat} {w w' : World} (h : Below w.heap.size w w') : Two b c w w' := .left (.of_below h)
theorem Two.below {b c B : Nat} {w w' : World} (h : Two b c w w') (hb : B ≤ b) (hc : B ≤ c) (hB : B ≤ w.heap.size) : Below B w w' :=
  ⟨h.os, h.tape, h.output, h.size, fun k hk => h.block k (by omega) (by omega) (by omega)⟩
theorem Two.cell {b c : Nat} {w w' : World} (h : Two b c w w') {p : Addr} (hp : p.block < w.heap.size) (h1 : p.block ≠ b) (h2 : p.block ≠ c) : w'.cell? p = w.cell? p := World.cell?_of_block (w := w) (h.block p.block hp h1 h2)
/-- The slice lies apart from two blocks. -/
def Apart (p : Option Addr) (bs : List Int) (b c : Nat) : Prop := bs ≠ [] → ∀ k off, p = some ⟨k, off, none⟩ → k ≠ b ∧ k ≠ c
theorem SlAt.two {w w' : World} {p : Option Addr} {bs : List Int} {b c : Nat} (h : SlAt w p bs) (ht : Two b c w w') (hf : Apart p bs b c) : SlAt w' p bs := by
  refine ⟨h.rng, ?_⟩
  by_cases e : bs = []
  · exact .inl e
  · obtain ⟨k, off, hp, hlt, hc⟩ := h.at_.resolve_left e
    exact .inr ⟨k, off, hp, Nat.lt_of_lt_of_le hlt ht.size, fun j hj => (ht.cell (p := ⟨k, off + j, none⟩) hlt (hf e k off hp).1 (hf e k off hp).2).trans (hc j hj)⟩

/-- A deed. -/
structure Deed where
  kind : Int
  ad : Int
  nn : Int
  v : Int
  p : Option Addr
  cp : Nat
  bs : List Int
def Deed.cells (d : Deed) : Array Value := #[.int .i64 d.kind, .int .u64 d.ad, .int .i64 d.nn, .int .u64 d.v, .slice d.p d.bs.length d.cp]
structure Deed.Ok (d : Deed) : Prop where
  kind : -9223372036854775808 ≤ d.kind ∧ d.kind ≤ 9223372036854775807
  ad : 0 ≤ d.ad ∧ d.ad < 18446744073709551616
  nn : -9223372036854775808 ≤ d.nn ∧ d.nn ≤ 9223372036854775807
  v : 0 ≤ d.v ∧ d.v < 18446744073709551616
  len : d.bs.length ≤ 500
  cap : d.bs.length ≤ d.cp
/-- What it leaves. -/
def Deed.play (d : Deed) (n : Nat) (B : List Int) : List Int :=
  if d.kind = 0 then stV B n d.ad d.nn d.v else if d.kind = 1 then flV B n d.ad d.bs else if d.kind = 2 then setLV B n d.nn (Ln.ofB d.bs) else B
theorem beq_self' (b : Bool) : (b == b) = true := by cases b <;> rfl
theorem info_deed : (Try.prog.info? 26).map (·.size) = some 5 := by kernel_rfl
set_option maxHeartbeats 4000000 in
theorem do0_c {w : World} {rb mb gb n : Nat} (cap : Nat) {t : TypeId} {B : List Int} (hR : RamAt w rb mb n B) (hG : RefAt w gb t n B) (d : Deed) (hd : d.Ok) (hs : SlAt w d.p d.bs) (hf : Apart d.p d.bs mb gb) (h1 : mb ≠ gb) (h2 : rb ≠ gb) (hk : d.kind = 0) :
    Calls Try.prog 10 #[.pointer (some ⟨rb, 0, none⟩), mV gb n cap, .agg d.cells] w fun e w' => e = .returned (.bool true) ∧ RamAt w' rb mb n (d.play n B) ∧ RefAt w' gb t n (d.play n B) ∧ Two mb gb w w' := by
  obtain ⟨kd, ad, nn, v, p, cp, bs⟩ := d
  have hB := ((Below.refl w.heap.size w).alloc (Nat.le_refl _) (.cells #[.slice (some ⟨gb, 0, none⟩) (64 * n) cap] 34)).alloc (by simp) (.cells #[.int .i64 kd, .int .u64 ad, .int .i64 nn, .int .u64 v, .slice p bs.length cp] 26)
  have HRM := Lib.hid (hR.low hB)
  have HRF := Lib.hid (hG.low hB)
  have HT := Lib.hid (Two.of_below (b := mb) (c := gb) hB)
  have HC := Lib.hid ((CsAt.new w 34 #[.slice (some ⟨gb, 0, none⟩) (64 * n) cap]).alloc (.cells #[.int .i64 kd, .int .u64 ad, .int .i64 nn, .int .u64 v, .slice p bs.length cp] 26))
  have HD := Lib.hid (show CsAt ((w.alloc (.cells #[.slice (some ⟨gb, 0, none⟩) (64 * n) cap] 34)).alloc (.cells #[.int .i64 kd, .int .u64 ad, .int .i64 nn, .int .u64 v, .slice p bs.length cp] 26)) (w.heap.size + 1) 26 #[.int .i64 kd, .int .u64 ad, .int .i64 nn, .int .u64 v, .slice p bs.length cp] by
    simpa using CsAt.new (w.alloc (.cells #[.slice (some ⟨gb, 0, none⟩) (64 * n) cap] 34)) 26 #[.int .i64 kd, .int .u64 ad, .int .i64 nn, .int .u64 v, .slice p bs.length cp])
  have HOK := Lib.hid hd
  have HS := Lib.hid hs
  have HF := Lib.hid hf
  have HNE := Lib.hid (And.intro h1 h2)
  have hmb := hR.mlt
  have hgb := hG.lt
  have hrb := hR.lt
  have c0 := HC.out.cell 0
  have d0 := HD.out.cell 0
  have d1 := HD.out.cell 1
  have d2 := HD.out.cell 2
  have d3 := HD.out.cell 3
  have d4 := HD.out.cell 4
  clear hB hR hG hd hs hf h1 h2
  have HP := Lib.hid (show Deed.play ⟨kd, ad, nn, v, p, cp, bs⟩ n B = stV B n ad nn v from if_pos hk)
  rw [HP.out]
  have g0 : (kd == 0) = true := by rw [beq_iff_eq]; exact hk
  clear HP hk
  unfold mV Deed.cells
  go_enter Try.func10, Try.ntmps10
  go_upto_region 1 with (fail)
  generalize (w.alloc (.cells #[.slice (some ⟨gb, 0, none⟩) (64 * n) cap] 34)).alloc (.cells #[.int .i64 kd, .int .u64 ad, .int .i64 nn, .int .u64 v, .slice p bs.length cp] 26) = w1 at *
  go_upto_region 3 with (fail)
  refine wp_region_phase 7 15 (fun W => CsAt W w.heap.size 34 #[.slice (some ⟨gb, 0, none⟩) (64 * n) cap] ∧ CsAt W (w.heap.size + 1) 26 #[.int .i64 kd, .int .u64 ad, .int .i64 nn, .int .u64 v, .slice p bs.length cp] ∧ Two mb gb w W) (fun W => RamAt W rb mb n (B) ∧ RefAt W gb t n (B)) (fun W => RamAt W rb mb n (stV B n ad nn v) ∧ RefAt W gb t n (B)) (fun W => RamAt W rb mb n (stV B n ad nn v) ∧ RefAt W gb t n (stV B n ad nn v)) (by decide) (by decide) (by kernel_rfl) (by kernel_rfl) ⟨HC.out, HD.out, HT.out.trans (.of_below (Below.refl _ _).drew)⟩ ⟨HRM.out.drew, HRF.out.low (Below.refl _ _).drew⟩ ?_
  iterate 7
    refine phase_val ?_ ?_ (by decide) (by decide) (by kernel_rfl) (fun W hT => ?_) ?_ ?_
    rotate_left 2
    · have c0 := hT.1.cell 0; have d0 := hT.2.1.cell 0; have d1 := hT.2.1.cell 1; have d2 := hT.2.1.cell 2; have d3 := hT.2.1.cell 3; have d4 := hT.2.1.cell 4
      go_simp
      exact rfl
    · go_simp
      exact rfl
  refine phase_call1 (.bool (hasN n ad nn)) 19 #[.pointer (some ⟨rb, 0, none⟩), .int .u64 ad, .int .i64 nn, .int .u64 v] ?_ rfl (by decide) (by kernel_rfl) (fun W hT => ?_) (fun W hT hU => (store_c hU.1 ad nn v HOK.out.ad HOK.out.nn HOK.out.v).mono fun e W' ⟨he, ht, ho⟩ => ⟨he, ⟨hT.1.only ho (by have := HNE.out.1; omega), hT.2.1.only ho (by omega), hT.2.2.trans (.left ho)⟩, ht, hU.2.only ho (Ne.symm HNE.out.1)⟩) ?_ ?_
  rotate_left 1
  · go_simp
  · go_simp
    exact rfl
  iterate 7
    refine phase_val ?_ ?_ (by decide) (by decide) (by kernel_rfl) (fun W hT => ?_) ?_ ?_
    rotate_left 2
    · have c0 := hT.1.cell 0; have d0 := hT.2.1.cell 0; have d1 := hT.2.1.cell 1; have d2 := hT.2.1.cell 2; have d3 := hT.2.1.cell 3; have d4 := hT.2.1.cell 4
      go_simp
      exact rfl
    · go_simp
      exact rfl
  refine phase_call2 (.bool (hasN n ad nn)) 27 #[.agg #[.slice (some ⟨gb, 0, none⟩) (64 * n) cap], .int .u64 ad, .int .i64 nn, .int .u64 v] ?_ rfl (by decide) rfl (by kernel_rfl) (by kernel_rfl) (fun W hT => ?_) (fun W hT hU => (rstore_c cap hU.2 ad nn v HOK.out.ad HOK.out.nn HOK.out.v).mono fun e W' ⟨he, ht, ho⟩ => ⟨he, ⟨hT.1.only ho (by omega), hT.2.1.only ho (by omega), hT.2.2.trans (.right ho)⟩, hU.1.only ho HNE.out.2 HNE.out.1, ht⟩) ?_ ?_
  rotate_left 1
  · go_simp
  · go_simp
    exact rfl
  iterate 2
    refine phase_val ?_ ?_ (by decide) (by decide) (by kernel_rfl) (fun W hT => ?_) ?_ ?_
    rotate_left 2
    · have c0 := hT.1.cell 0; have d0 := hT.2.1.cell 0; have d1 := hT.2.1.cell 1; have d2 := hT.2.1.cell 2; have d3 := hT.2.1.cell 3; have d4 := hT.2.1.cell 4
      go_simp
      exact rfl
    · go_simp
      exact rfl
  refine phase_nil ?_
  intro W hT hU
  have HW := Lib.hid (And.intro hT hU)
  clear hT hU
  go_wp2_with fail
  go_ret
  exact ⟨rfl, HW.out.2.1, HW.out.2.2, HW.out.1.2.2⟩
end Go.Proofs.Ytdlollkieihjpaa
