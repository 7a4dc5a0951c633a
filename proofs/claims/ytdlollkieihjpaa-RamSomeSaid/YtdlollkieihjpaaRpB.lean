/-
  The law RamPlays: what is played.
-/
import Derived.Test.YtdlollkieihjpaaRpA
import Derived.Deep.MidRow
namespace Go.Proofs.Ytdlollkieihjpaa
open Go.ChangeShapes Go.WideShapes Go.ChangeAt Go.RowKit Wd

def playAll (n : Nat) (B : List Int) (l : List Deed) : List Int := l.foldl (fun B d => d.play n B) B
theorem playAll_snoc (n : Nat) (B : List Int) (l : List Deed) (k : Nat) (hk : k < l.length) : playAll n B (l.take (k + 1)) = (l.getD k d0).play n (playAll n B (l.take k)) := by
  have e : l.take (k + 1) = l.take k ++ [l.getD k d0] := by
    rw [List.take_add_one, List.getElem?_eq_getElem hk]; simp [List.getD, hk]
  unfold playAll
  rw [e, List.foldl_append]; rfl
theorem CsAt.two {w w' : World} {b c k : Nat} {t : TypeId} {cs : Array Value} (h : CsAt w k t cs) (ht : Two b c w w') (h1 : k ≠ b) (h2 : k ≠ c) : CsAt w' k t cs := (ht.block k h.lt h1 h2).trans h
theorem exec_load_mid {P : Program} {o : Oper} {a : Act} {w : World} (ty : TypeId) (x : Operand) (ho : o.op = .load ty x) (b off : Nat) (hx : a.eval x = .pointer (some ⟨b, off, none⟩)) (cs : Array Value) (d : TypeDesc) (hc : ∀ j v, cs[j]? = some v → w.cell? ⟨b, off + j, none⟩ = some v)
    (hu : P.underlying ty = some d) (hd : d.isRow = true) (hi : (P.info? ty).map (·.size) = some cs.size) : (execOp a.eval o).run P w = .ok (.value (.agg cs)) w := by
  unfold execOp
  simp only [ho, hx, Sem.run_bind, run_loadAt_mid w b off ty cs.toList d (fun j v h => hc j v (by simpa using h)) hu hd (by simpa using hi), Sem.run_pure, Result.andThen_ok, Array.toArray_toList]
/-- What stands while deeds are done. -/
structure St (w : World) (q : Deed) (rb mb g xb n cap : Nat) (B : List Int) (W : World) : Prop where
  ram : RamAt W rb mb n B
  ref : RefAt W g 5 n B
  o : CsAt W w.heap.size 26 q.cells
  x : CsAt W xb 34 #[.slice (some ⟨g, 0, none⟩) (64 * n) cap]
  b : Below w.heap.size w W
theorem St.low {w W W' : World} {q : Deed} {rb mb g xb n cap : Nat} {B : List Int} (h : St w q rb mb g xb n cap B W) (hb : Below W.heap.size W W') : St w q rb mb g xb n cap B W' :=
  ⟨h.ram.low hb, h.ref.low hb, h.o.low hb, h.x.low hb, h.b.trans (hb.mono h.b.size)⟩
theorem St.does {w W : World} {q : Deed} {rb mb g xb n cap : Nat} {B : List Int} (h : St w q rb mb g xb n cap B W) (d : Deed) (hd : d.In w) (hl : d.bs.length ≤ 500) (h1 : w.heap.size < mb) (h2 : mb < rb) (h3 : rb < g) (h4 : g < xb) :
    Calls Try.prog 10 #[.pointer (some ⟨rb, 0, none⟩), mV g n cap, .agg d.cells] W fun e W' => e = .returned (.bool true) ∧ St w q rb mb g xb n cap (d.play n B) W' :=
  (do_c cap h.ram h.ref d ((hd.low h.b).ok hl) (hd.low h.b).sl (hd.apart (by omega) (by omega)) (by omega) (by omega)).mono fun e W' ⟨he, hr, hf, ht⟩ =>
    ⟨he, hr, hf, h.o.two ht (by omega) (by omega), h.x.two ht (by omega) (by omega), h.b.trans (ht.below (by omega) (by omega) h.b.size)⟩
theorem RamAt.on {w w' : World} {rb mb n N : Nat} {B : List Int} (h : RamAt w rb mb n B) (hb : Below N w w') (h1 : rb < N) (h2 : mb < N) : RamAt w' rb mb n B :=
  h.keep (b := N) (N := N) ⟨hb.size, fun k hk _ => hb.block k hk⟩ h1 h2 (by omega) (by omega)
theorem RefAt.on {w w' : World} {gb n N : Nat} {t : TypeId} {B : List Int} (h : RefAt w gb t n B) (hb : Below N w w') (h1 : gb < N) : RefAt w' gb t n B := by
  obtain ⟨Z, hZ⟩ := h.row
  exact ⟨h.ok, h.n1, Z, CsAt.on hZ hb h1⟩
theorem St.on {w W W' : World} {q : Deed} {rb mb g xb n cap N : Nat} {B : List Int} (h : St w q rb mb g xb n cap B W) (hb : Below N W W') (h0 : w.heap.size < N) (h1 : rb < N) (h2 : mb < N) (h3 : g < N) (h4 : xb < N) : St w q rb mb g xb n cap B W' :=
  ⟨h.ram.on hb h1 h2, h.ref.on hb h3, CsAt.on h.o hb h0, CsAt.on h.x hb h4, h.b.trans (hb.mono (by omega))⟩
theorem St.does2 {w W : World} {q : Deed} {rb mb g xb sb sm h yb n cap cap2 : Nat} {A B : List Int} (hA : St w q rb mb g xb n cap A W) (hB : St w q sb sm h yb n cap2 B W) (d : Deed) (hd : d.In w) (hl : d.bs.length ≤ 500) (h0 : w.heap.size < mb) (h1 : mb < rb) (h2 : rb < g) (h3 : g < xb) (h4 : xb < sm) (h5 : sm < sb) (h6 : sb < h) (h7 : h < yb) :
    Calls Try.prog 10 #[.pointer (some ⟨sb, 0, none⟩), mV h n cap2, .agg d.cells] W fun e W' => e = .returned (.bool true) ∧ St w q rb mb g xb n cap A W' ∧ St w q sb sm h yb n cap2 (d.play n B) W' :=
  (do_c cap2 hB.ram hB.ref d ((hd.low hB.b).ok hl) (hd.low hB.b).sl (hd.apart (by omega) (by omega)) (by omega) (by omega)).mono fun e W' ⟨he, hr, hf, ht⟩ =>
    ⟨he, hA.on (ht.below (B := sm) (by omega) (by omega) (by have := hB.ram.mlt; omega)) (by omega) (by omega) (by omega) (by omega) (by omega),
      hr, hf, hB.o.two ht (by omega) (by omega), hB.x.two ht (by omega) (by omega), hB.b.trans (ht.below (by omega) (by omega) hB.b.size)⟩
theorem beq_flip (A B : List Int) : (A == B) = (B == A) := by rw [Bool.eq_iff_iff, beq_iff_eq, beq_iff_eq]; exact eq_comm
set_option maxHeartbeats 4000000 in
theorem plays_small {w : World} (m : Nat) {ao : Option Addr} {n : Nat} (cap : Nat) {l : List Deed} (q : Deed) (h1 : 1 ≤ m) (h2 : m ≤ 30) (hl : Deeds w ao n l) (hq : q.In w) (hg : greatB l = false) (hq5 : q.bs.length ≤ 500) :
    Calls Try.prog 3 #[.int .i64 (m : Int), .slice ao n cap, .agg q.cells] w fun e w' => e = .returned (.bool true) ∧ Below w.heap.size w w' := by
  have hB := (Below.refl w.heap.size w).alloc (Nat.le_refl _) (.cells q.cells 26)
  have HB := Lib.hid hB
  have HC := Lib.hid (CsAt.new w 26 q.cells)
  have HL := Lib.hid hl
  have HG := Lib.hid hg
  have HQ := Lib.hid hq
  have g1 : decide ((m : Int) < 1) = false := by simp; omega
  have g2 : decide (4096 < (m : Int)) = false := by simp; omega
  have g3 : decide (30 < (m : Int)) = false := by simp; omega
  have g4 : decide (500 < q.bs.length) = false := by simp; omega
  have g5 : decide (500 < (q.bs.length : Int)) = false := by simp; omega
  have hn60 : n ≤ 60 := by have := (greatB_no hg).1; rwa [hl.len] at this
  clear hB hl hg hq
  go_enter Try.func3, Try.ntmps3
  go_wp2_with fail
  generalize w.alloc (.cells q.cells 26) = w1 at *
  have hs1 := HC.out.lt
  refine (new_c m h1 (by omega) _).mono ?_
  rintro e w2 ⟨rfl, hr, hb⟩
  have HR2 := Lib.hid hr
  have HB2 := Lib.hid (HB.out.trans (hb.mono HB.out.size))
  have HC2 := Lib.hid (HC.out.low hb)
  have c4 : w2.cell? ⟨w.heap.size, 4, none⟩ = some (.slice q.p q.bs.length q.cp) := HC2.out.cell 4
  have hs2 := hr.lt
  clear hb hr HB HC
  have HL2 := Lib.hid (HL.out.low HB2.out)
  go_wp2_with fail
  refine (great_c cap HL2.out).mono ?_
  rintro e w3 ⟨rfl, rfl⟩
  rw [HG.out]
  go_wp2_with fail
  refine (rnew_c m h1 (by omega) _).mono ?_
  rintro e w3 ⟨g, cx, rfl, hg, hf, hb⟩
  have hs3 := hf.lt
  have HR3 := Lib.hid (HR2.out.low hb)
  have HF3 := Lib.hid hf
  have HB3 := Lib.hid (HB2.out.trans (hb.mono HB2.out.size))
  have HC3 := Lib.hid (HC2.out.low hb)
  clear hb hf HR2 HB2 HC2 c4
  unfold mV
  go_upto_region 7 with (fail)
  have HS := Lib.hid (show St w q (w1.heap.size + 1) w1.heap.size g w3.heap.size m cx (playAll m (Rm.nought m) (l.take 0)) (w3.alloc (.cells #[.slice (some ⟨g, 0, none⟩) (64 * m) cx] 34)) by
    have hb := (Below.refl w3.heap.size w3).alloc (Nat.le_refl _) (.cells #[.slice (some ⟨g, 0, none⟩) (64 * m) cx] 34)
    exact ⟨HR3.out.low hb, HF3.out.low hb, HC3.out.low hb, CsAt.new w3 _ _, HB3.out.trans (hb.mono HB3.out.size)⟩)
  have hs0 : w.heap.size < w1.heap.size := hs1
  have hg1 : w1.heap.size + 1 < g := by omega
  clear HR3 HF3 HC3 HB3 HL2
  generalize w3.alloc (.cells #[.slice (some ⟨g, 0, none⟩) (64 * m) cx] 34) = w4 at *
  generalize w3.heap.size = xb at *
  generalize w1.heap.size = mb at *
  go_wp2_with fail
  go_loopw [10] (fun i wr => ∃ k : Nat, k ≤ n ∧ i = .int .i64 (k : Int) ∧ St w q (mb + 1) mb g xb m cx (playAll m (Rm.nought m) (l.take k)) wr) (fun i _ => n - (intOf i).toNat)
  case atStart => exact ⟨0, by omega, rfl, HS.out⟩
  case round =>
    obtain ⟨k, hk, rfl, hst⟩ := hrel
    have HT := Lib.hid hst
    clear hst HS
    by_cases hlt : k < n
    · have k1 : decide (k < n) = true := by simpa using hlt
      have hki : (k : Int) < (n : Int) := by omega
      obtain ⟨b, off, rfl, hb, hc⟩ := HL.out.at_ (by omega)
      have HIN := Lib.hid (HL.out.each k hlt)
      have HLE := Lib.hid ((greatB_no HG.out).2 k (by rw [HL.out.len]; exact hlt))
      have HSN := Lib.hid (playAll_snoc m (Rm.nought m) l k (by rw [HL.out.len]; exact hlt))
      have HCC := Lib.hid (hc k hlt)
      clear hc
      generalize l.getD k d0 = d at *
      generalize hP : playAll m (Rm.nought m) (l.take k) = P at *
      have HPP := Lib.hid hP
      clear hP
      have HLD := Lib.hid (show ∀ W, St w q (mb + 1) mb g xb m cx P W → ∀ j v, d.cells[j]? = some v → W.cell? ⟨b, off + k * 5 + j, none⟩ = some v by
        intro W hS j v hv
        have hj : j < 5 := (Array.getElem?_eq_some_iff.1 hv).1
        rw [hS.b.cell (p := ⟨b, off + k * 5 + j, none⟩) hb, HCC.out j hj, hv])
      go_upto_region 12 with (fail)
      refine wp_region_steady_tail (fun W => St w q (mb + 1) mb g xb m cx P W) 6 (by kernel_rfl) (by kernel_rfl) (HT.out.low (Below.refl _ _).drew) ?_
      iterate 5
        refine steady_val ?_ ?_ (by kernel_rfl) (fun W hS => ?_) ?_ ?_
        rotate_left 2
        · have c0 := hS.x.cell 0; go_simp
          exact rfl
        · go_simp
          exact rfl
      refine steady_val (.agg d.cells) ?_ (by kernel_rfl) (fun W hS => exec_load_mid _ _ rfl b (off + k * 5) rfl d.cells _ (HLD.out W hS) Try.underlying26 rfl info_deed) ?_ ?_
      rotate_left 1
      · go_simp
        exact rfl
      refine steady_nil ?_
      intro W hS
      simp only [List.drop_succ_cons, List.drop_zero]
      have HW := Lib.hid hS
      clear hS HT HLD
      go_wp2_with fail
      refine (HW.out.does d HIN.out HLE.out hs0 (by omega) (by omega) (by omega)).mono ?_
      rintro e W2 ⟨rfl, h2s⟩
      have HW2 := Lib.hid h2s
      clear h2s HW
      go_wp2_with fail
      go_roundw
      case rel => exact ⟨k + 1, by omega, by go_num, by rw [HSN.out]; exact HW2.out⟩
      case measure => simp [intOf]; omega
    · have k1 : decide (k < n) = false := by simpa using hlt
      obtain rfl : k = n := by omega
      have HT2 := Lib.hid (show St w q (mb + 1) mb g xb m cx (playAll m (Rm.nought m) l) wr by have := HT.out; rwa [List.take_of_length_le (Nat.le_of_eq HL.out.len)] at this)
      clear HT
      generalize playAll m (Rm.nought m) l = P at *
      have c0 := HT2.out.x.cell 0
      go_wp2_with fail
      refine (holds_c cx HT2.out.ram HT2.out.ref).mono ?_
      rintro e w5 ⟨rfl, hb⟩
      have HT5 := Lib.hid (HT2.out.low hb)
      clear hb HT2 c0
      go_wp2_with fail
      refine (clone_c HT5.out.ram).mono ?_
      rintro e w6 ⟨rfl, hr, hb⟩
      have HT6 := Lib.hid (HT5.out.low hb)
      have HR6 := Lib.hid hr
      have hx5 := HT5.out.x.lt
      have hs6 := hr.lt
      clear hb hr HT5
      have c0 := HT6.out.x.cell 0
      go_wp2_with fail
      refine (rcopy_c cx HT6.out.ref h1).mono ?_
      rintro e w7 ⟨g', cy, rfl, hg', hf, hb⟩
      have HT7 := Lib.hid (HT6.out.low hb)
      have HR7 := Lib.hid (HR6.out.low hb)
      have HF7 := Lib.hid hf
      have hs7 := hf.lt
      clear hb hf HT6 HR6 c0
      unfold mV
      go_upto_region 18 with (fail)
      have hba := (Below.refl w7.heap.size w7).alloc (Nat.le_refl _) (.cells #[.slice (some ⟨g', 0, none⟩) (64 * m) cy] 34)
      have HT8 := Lib.hid (HT7.out.low hba)
      have HY8 := Lib.hid (show St w q (w5.heap.size + 1) w5.heap.size g' w7.heap.size m cy P (w7.alloc (.cells #[.slice (some ⟨g', 0, none⟩) (64 * m) cy] 34)) from
        ⟨HR7.out.low hba, HF7.out.low hba, HT8.out.o, CsAt.new w7 _ _, HT8.out.b⟩)
      clear hba HT7 HR7 HF7
      generalize w7.alloc (.cells #[.slice (some ⟨g', 0, none⟩) (64 * m) cy] 34) = w8 at *
      generalize w7.heap.size = yb at *
      have hg6 : w5.heap.size + 1 < g' := by omega
      clear hs6 hg'
      generalize w5.heap.size = sm at *
      have c0 := HY8.out.x.cell 0
      go_wp2_with fail
      refine (same_c HY8.out.ram HT8.out.ram).mono ?_
      rintro e w9 ⟨rfl, hb⟩
      have HT9 := Lib.hid (HT8.out.low hb)
      have HY9 := Lib.hid (HY8.out.low hb)
      clear hb HT8 HY8 c0
      have c0 := HY9.out.x.cell 0
      have e0 : (P == P) = true := by simp
      rw [e0]
      clear e0
      go_wp2_with (refine wpList_load_rowW (by rfl) 26 _ rfl w.heap.size rfl 26 _ (0, 0) _ HT9.out.o Try.underlying26 rfl info_deed ?_)
      refine (St.does2 HT9.out HY9.out q HQ.out hq5 hs0 (by omega) (by omega) (by omega) (by omega) (by omega) (by omega) (by omega)).mono ?_
      rintro e w10 ⟨rfl, hA, hB⟩
      have HA := Lib.hid hA
      have HY := Lib.hid hB
      clear hA hB HT9 HY9 c0
      generalize q.play m P = P' at *
      go_upto_region 20 with (fail)
      refine wp_region_steady (fun W => St w q (mb + 1) mb g xb m cx P W ∧ St w q (sm + 1) sm g' yb m cy P' W) (by kernel_rfl) (by kernel_rfl) ⟨HA.out.low (Below.refl _ _).drew, HY.out.low (Below.refl _ _).drew⟩ ?_
      iterate 2
        refine steady_val ?_ ?_ (by kernel_rfl) (fun W hS => ?_) ?_ ?_
        rotate_left 2
        · have c0 := hS.1.x.cell 0; have c1 := hS.2.x.cell 0; go_simp
          exact rfl
        · go_simp
          exact rfl
      refine steady_enter (.bool true) 11 #[.pointer (some ⟨sm + 1, 0, none⟩), .agg #[.slice (some ⟨g', 0, none⟩) (64 * m) cy]] ?_ (by kernel_rfl) (fun W hS => ?_) (fun W hS => (holds_c cy hS.2.ram hS.2.ref).mono fun e W' ⟨he, hb⟩ => ⟨he, hS.1.low hb, hS.2.low hb⟩) ?_ ?_
      rotate_left 1
      · go_simp
      · go_simp
        exact rfl
      iterate 3
        refine steady_val ?_ ?_ (by kernel_rfl) (fun W hS => ?_) ?_ ?_
        rotate_left 2
        · have c0 := hS.1.x.cell 0; have c1 := hS.2.x.cell 0; go_simp
          exact rfl
        · go_simp
          exact rfl
      refine steady_enter (.bool true) 11 #[.pointer (some ⟨mb + 1, 0, none⟩), .agg #[.slice (some ⟨g, 0, none⟩) (64 * m) cx]] ?_ (by kernel_rfl) (fun W hS => ?_) (fun W hS => (holds_c cx hS.1.ram hS.1.ref).mono fun e W' ⟨he, hb⟩ => ⟨he, hS.1.low hb, hS.2.low hb⟩) ?_ ?_
      rotate_left 1
      · go_simp
      · go_simp
        exact rfl
      iterate 4
        refine steady_val ?_ ?_ (by kernel_rfl) (fun W hS => ?_) ?_ ?_
        rotate_left 2
        · have c0 := hS.1.x.cell 0; have c1 := hS.2.x.cell 0; go_simp
          exact rfl
        · go_simp
          exact rfl
      refine steady_enter (.bool (P' == P)) 14 #[.pointer (some ⟨sm + 1, 0, none⟩), .pointer (some ⟨mb + 1, 0, none⟩)] ?_ (by kernel_rfl) (fun W hS => ?_) (fun W hS => (same_c hS.2.ram hS.1.ram).mono fun e W' ⟨he, hb⟩ => ⟨he, hS.1.low hb, hS.2.low hb⟩) ?_ ?_
      rotate_left 1
      · go_simp
      · go_simp
        exact rfl
      iterate 2
        refine steady_val ?_ ?_ (by kernel_rfl) (fun W hS => ?_) ?_ ?_
        rotate_left 2
        · have c0 := hS.1.x.cell 0; have c1 := hS.2.x.cell 0; go_simp
          exact rfl
        · go_simp
          exact rfl
      refine steady_enter (.bool (P' == P)) 15 #[.agg #[.slice (some ⟨g, 0, none⟩) (64 * m) cx], .agg #[.slice (some ⟨g', 0, none⟩) (64 * m) cy]] ?_ (by kernel_rfl) (fun W hS => ?_) (fun W hS => (rsame_c cx cy hS.1.ref hS.2.ref).mono fun e W' ⟨he, hb⟩ => ⟨beq_flip P P' ▸ he, hS.1.low hb, hS.2.low hb⟩) ?_ ?_
      rotate_left 1
      · go_simp
      · go_simp
        exact rfl
      iterate 3
        refine steady_val ?_ ?_ (by kernel_rfl) (fun W hS => ?_) ?_ ?_
        rotate_left 2
        · have c0 := hS.1.x.cell 0; have c1 := hS.2.x.cell 0; go_simp
          exact rfl
        · go_simp
          exact rfl
      refine steady_enter (.bool true) 7 #[] ?_ (by kernel_rfl) (fun W hS => ?_) (fun W hS => (live10_c W).mono fun e W' ⟨he, hb⟩ => ⟨he, hS.1.low hb, hS.2.low hb⟩) ?_ ?_
      rotate_left 1
      · go_simp
      · go_simp
        exact rfl
      iterate 2
        refine steady_val ?_ ?_ (by kernel_rfl) (fun W hS => ?_) ?_ ?_
        rotate_left 2
        · have c0 := hS.1.x.cell 0; have c1 := hS.2.x.cell 0; go_simp
          exact rfl
        · go_simp
          exact rfl
      refine steady_nil ?_
      intro W hS
      have HW := Lib.hid hS.1.b
      clear hS
      go_wp2_with fail
      go_ret
      exact ⟨rfl, HW.out⟩
end Go.Proofs.Ytdlollkieihjpaa
