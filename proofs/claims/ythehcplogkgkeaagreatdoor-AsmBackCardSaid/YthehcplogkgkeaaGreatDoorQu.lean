/-
  asm.Parse's loop over the operands (layer 6): what holds in it. The contract of asm.Parse (layer 6): its operands. A line's words, as lists of bytes (layer 6): what the reference's Split gathers, and that it is what strings.Split gives. The contract of asm.Parse (layer 6), whole: its answer as a function of the line.
-/
import Derived.Test.YthehcplogkgkeaaGreatDoorQt
import Derived.Lib.SmallJoins
import Derived.Lib.SplitLaws
set_option maxRecDepth 4000
namespace Go.Proofs.YthehcplogkgkeaaGreatDoor
open Go.ChangeShapes Go.WideShapes Go.ChangeAt Go.RowKit Wd Num

/-- The instruction behind the first k operands, or the first error. -/
def preK (Ks : List Kd) (ws : Nat → ByteArray) (x0 : Fl) : Nat → Except Int Fl
  | 0 => .ok x0
  | k + 1 => match preK Ks ws x0 k with
    | .ok x => stepK (Ks.getD k .rd) (ws k) x
    | .error e => .error e
def checkF (x : Fl) : Int := checkS x.op x.rd x.rs1 x.rs2 x.imm x.csr x.aq x.rl
def finV (r : Except Int Fl) : Value :=
  match r with
  | .ok x => if checkF x = 0 then .tuple #[.agg (flA x), .int .i64 0] else .tuple #[.agg zeroI, .int .i64 3]
  | .error e => .tuple #[.agg zeroI, .int .i64 e]
theorem preK_err {Ks : List Kd} {ws : Nat → ByteArray} {x0 : Fl} {e : Int} {k : Nat} (h : preK Ks ws x0 k = .error e) : ∀ m, preK Ks ws x0 (k + m) = .error e
  | 0 => h
  | m + 1 => by
    show (match preK Ks ws x0 (k + m) with | .ok x => stepK (Ks.getD (k + m) .rd) (ws (k + m)) x | .error e => .error e) = .error e
    rw [preK_err h m]
theorem preK_step {Ks : List Kd} {ws : Nat → ByteArray} {x0 x : Fl} {k : Nat} (h : preK Ks ws x0 k = .ok x) : preK Ks ws x0 (k + 1) = stepK (Ks.getD k .rd) (ws k) x := by
  show (match preK Ks ws x0 k with | .ok x => stepK (Ks.getD k .rd) (ws k) x | .error e => .error e) = _
  rw [h]
theorem stepK_op {k : Kd} {s : ByteArray} {x y : Fl} (h : stepK k s x = .ok y) : y.op = x.op := by
  unfold stepK at h
  split at h <;> split at h <;> first | (cases h; done) | (obtain rfl := Except.ok.inj h; rfl)
theorem preK_op {Ks : List Kd} {ws : Nat → ByteArray} {x0 : Fl} : ∀ {k : Nat} {x : Fl}, preK Ks ws x0 k = .ok x → x.op = x0.op
  | 0, x, h => by obtain rfl := Except.ok.inj h; rfl
  | k + 1, x, h => by
    cases hk : preK Ks ws x0 k with
    | error e => rw [preK_err hk 1] at h; cases h
    | ok y =>
      rw [preK_step hk] at h
      exact (stepK_op h).trans (preK_op hk)
theorem opd_enters2 (k : Kd) : Go.Proofs.Enters Tryz.prog (opd k).2.1 := by
  cases k
  · exact Go.Proofs.enters_of Tryz.func99 (by kernel_rfl) rfl
  · exact Go.Proofs.enters_of Tryz.func99 (by kernel_rfl) rfl
  · exact Go.Proofs.enters_of Tryz.func99 (by kernel_rfl) rfl
  · exact Go.Proofs.enters_of Tryz.func103 (by kernel_rfl) rfl
  · exact Go.Proofs.enters_of Tryz.func103 (by kernel_rfl) rfl
  · exact Go.Proofs.enters_of Tryz.func106 (by kernel_rfl) rfl
  · exact Go.Proofs.enters_of Tryz.func106 (by kernel_rfl) rfl
def isImm : Kd → Bool
  | .imm => true
  | _ => false
/-- No operand's captured value is the op itself. -/
theorem opd_far (op : Int) (j : Nat) (h : j < (kdL (fmtN op)).length) : (opd ((kdL (fmtN op)).getD j .rd)).2.2 ≠ .int .i64 op := by
  have l : ∀ k : Fin 98, ∀ j : Fin 3, isImm ((kdL (rowAt k.val).2.1).getD j.val .rd) = true → k.val ≠ 0 := by decide +kernel
  have hl := kdL_len (fmtN op)
  have hop : 1 ≤ op ∧ op ≤ 98 := by
    refine Classical.byContradiction fun hn => ?_
    have e : fmtN op = 0 := by unfold fmtN findRow; rw [if_neg hn]
    rw [e] at h
    exact absurd h (Nat.not_lt_zero j)
  have e : fmtN op = (rowAt (op.toNat - 1)).2.1 := by unfold fmtN findRow; rw [if_pos hop]
  have h1 := l ⟨op.toNat - 1, by omega⟩ ⟨j, by omega⟩
  rw [← e] at h1
  simp only at h1
  generalize (kdL (fmtN op)).getD j .rd = kk at h1
  cases kk
  · exact fun h => by cases h
  · exact fun h => by cases h
  · exact fun h => by cases h
  · exact fun h => by cases h
  · exact fun h => by cases h
  · intro h
    have : (1 : Int) = op := by simpa [opd, oImm] using h
    exact h1 rfl (by omega)
  · intro h
    have : (4096 : Int) = op := by simpa [opd, oUp] using h
    omega
theorem ErrsAt.low {w w' : World} (h : ErrsAt w) (hb : Below w.heap.size w w') : ErrsAt w' := by
  obtain ⟨⟨tp, p, tq, q, h1, h2⟩, ht⟩ := h
  exact ⟨⟨tp, p, tq, q, Go.Joins.var_stays (by kernel_rfl : Tryz.prog.globalNamed "strconv.ErrSyntax" = some 4) h1 hb (Nat.le_refl _), Go.Joins.var_stays (by kernel_rfl : Tryz.prog.globalNamed "strconv.ErrRange" = some 5) h2 hb (Nat.le_refl _)⟩, Lib.tabBelow_of_tabIs ht w' hb⟩
/-- In the loop: the instruction so far, the error's cell, the words, the operands. -/
structure ParseAt (w : World) (l : ByteArray) (o : Option Addr) (Ks : List Kd) (x : Fl) (W : World) : Prop where
  ins : CsAt W w.heap.size 24 (flA x)
  err : CsAt W (w.heap.size + 1) 26 #[.int .i64 0]
  words : ∀ j, j < (wordsB l).length → W.cell? ⟨w.heap.size + 2, j, none⟩ = some (.string ((wordsB l).getD j ByteArray.empty))
  ops : OpsEach W o Ks
  low : Below w.heap.size w W
theorem ParseAt.on {w W W' : World} {l : ByteArray} {o : Option Addr} {Ks : List Kd} {x : Fl} (h : ParseAt w l o Ks x W) (hb : Below W.heap.size W W') : ParseAt w l o Ks x W' :=
  ⟨h.ins.low hb, h.err.low hb, fun j hj => (hb.cell (p := ⟨w.heap.size + 2, j, none⟩) (lt_cell (h.words j hj))).trans (h.words j hj), h.ops.low hb, h.low.trans (hb.mono h.low.size)⟩
theorem cell_oth {b : Nat} {W W' : World} (h : Oth b W W') {p : Addr} (hp : p.block < W.heap.size) (hne : p.block ≠ b) : W'.cell? p = W.cell? p := by
  simp only [World.cell?, h.2 p.block hp hne]
theorem ParseAt.read {w W W' : World} {l : ByteArray} {o : Option Addr} {Ks : List Kd} {x y : Fl} (h : ParseAt w l o Ks x W) (hf : ∀ j, j < Ks.length → (opd (Ks.getD j .rd)).2.2 ≠ .int .i64 x.op) (hr : ReadTo w.heap.size W W' y) : ParseAt w l o Ks y W' := by
  refine ⟨hr.ins, ?_, fun j hj => ?_, ?_, h.low.trans (hr.low _ (Nat.le_refl _) h.low.size)⟩
  · have h1 := h.err
    have h2 : w.heap.size + 1 < W.heap.size := lt_cell (h1.cell 0)
    exact (hr.oth.2 _ h2 (by omega)).trans h1
  · exact (cell_oth hr.oth (p := ⟨w.heap.size + 2, j, none⟩) (lt_cell (h.words j hj)) (by show w.heap.size + 2 ≠ w.heap.size; omega)).trans (h.words j hj)
  · obtain ⟨B, ps, hps⟩ := h.ops
    refine ⟨B, ps, fun j hj => ?_⟩
    obtain ⟨e0, e1, e2, e3⟩ := hps j hj
    have hB : B ≠ w.heap.size := by
      rintro rfl
      rw [h.ins.cell (2 * j)] at e1
      have hl : ∀ i : Nat, (flA x)[i]? ≠ some (capV (opd (Ks.getD j .rd)).1 (ps.getD j 0)) := by
        intro i
        rcases i with _ | _ | _ | _ | _ | _ | _ | _ | i <;> simp [flA]
      exact hl _ e1
    have hp : ps.getD j 0 ≠ w.heap.size := by
      intro e
      rw [e, h.ins.cell 0] at e3
      have e4 : some (Value.int .i64 x.op) = some (opd (Ks.getD j .rd)).2.2 := e3
      exact hf j hj (Option.some.inj e4).symm
    exact ⟨e0, (cell_oth hr.oth (p := ⟨B, 2 * j, none⟩) (lt_cell e1) hB).trans e1, (cell_oth hr.oth (p := ⟨B, 2 * j + 1, none⟩) (lt_cell e2) hB).trans e2, (cell_oth hr.oth (p := ⟨ps.getD j 0, 0, none⟩) (lt_cell e3) hp).trans e3⟩
/-- Parse's way out by a return. -/
theorem parse_done (n : Int) (tmps : Array Value) (b c B : Nat) (cs : Array Value) (w0 W : World) (h2 : tmps.getD 2 undef = .pointer (some ⟨b, 0, none⟩)) (h3 : tmps.getD 3 undef = .pointer (some ⟨c, 0, none⟩)) (hb : CsAt W b 24 cs) (hs : cs.size = 8)
    (hc : W.cell? ⟨c, 0, none⟩ = some (.int .i64 n)) (hB : Below B w0 W) :
    bodyPostD Tryz.prog Tryz.f12 (fun r w' => r = .returned (.tuple #[.agg cs, .int .i64 n]) ∧ Below B w0 w') Exit.ret
      { tmps := tmps, defers := [{ target := Target.fn (Fn.func 31) #[.pointer (some ⟨b, 0, none⟩), .pointer (some ⟨c, 0, none⟩)], args := #[] }] } W := by
  refine leaves_cons (f := 31) (args := #[.pointer (some ⟨b, 0, none⟩), .pointer (some ⟨c, 0, none⟩)]) (by simp) (by simp [go_sem]) ?_
  refine (catch_idle _ _ W).mono ?_
  rintro r u' w'' ⟨rfl, rfl, rfl⟩
  exact ⟨_, results_parse tmps _ b c cs n h2 h3 hb hs hc, rfl, hB⟩
end Go.Proofs.YthehcplogkgkeaaGreatDoor
set_option maxRecDepth 4000
namespace Go.Proofs.YthehcplogkgkeaaGreatDoor
open Go.ChangeShapes Go.WideShapes Go.ChangeAt Go.RowKit Wd Num

set_option maxHeartbeats 8000000 in
theorem parse_steps (l s0 : ByteArray) (x0 : Fl) (w : World) (h0 : 0 < l.size) (h : l.size ≤ 200) (hm : MaxAt w) (ho : AsmOk w) (he : ErrsAt w) (hn1 : 0 < (wordsB l).length) (hn2 : (wordsB l).length ≤ 300) (hcs : Lib.containsS (wordsB l) ⟨#[]⟩ = false)
    (hs0 : (wordsB l).getD 0 ByteArray.empty = s0) (hsz : s0.size ≤ 1000) (hnm : nameE s0 = .returned (.agg (flA x0))) (hf1 : 1 ≤ fmtN x0.op) (Ks : List Kd) (hKs : kdL (fmtN x0.op) = Ks) (hct : (wordsB l).length = Ks.length + 1) (V : Value) (hV : finV (preK Ks (fun j => (wordsB l).getD (j + 1) ByteArray.empty) x0 Ks.length) = V) :
    Calls Tryz.prog 12 #[.string l] w fun r w' => r = .returned V ∧ Below w.heap.size w w' := by
  obtain ⟨-, -, n3⟩ := two_new w
  have hf2 := fmt_le x0.op
  have HA := Lib.hid (splitAt_new w l)
  have c0 := HA.out.words 0 hn1
  rw [hs0] at c0
  obtain ⟨n, hn⟩ : ∃ n, (wordsB l).length = n := ⟨_, rfl⟩
  rw [hn] at hn1 hn2 hct
  have HS := Lib.hid (split_gen2 l _ h0 h (hm.low n3) n hn hn2 false hcs _ rfl)
  have HR := Lib.hid (fun w' (hb : Below w.heap.size w w') => (show Calls Tryz.prog 33 #[.string s0] w' fun r w'' => r = .returned (.agg (flA x0)) ∧ Below w'.heap.size w' w'' by
    have hh := readName_c s0 w' (ho.orders.low hb) hsz
    rw [hnm] at hh
    exact hh))
  have HCT := Lib.hid hct
  have HV := Lib.hid hV
  have HFAR := Lib.hid (hKs ▸ opd_far x0.op)
  have HKS := Lib.hid hKs
  have HLE := Lib.hid (hKs ▸ kdL_len (fmtN x0.op))
  have HOK := Lib.hid ho
  have HEK := Lib.hid he
  have HLN := Lib.hid hn
  clear n3 hm hcs hs0 hnm hn hct ho he hKs hV
  have hn1' : (0 : Int) < (n : Int) := by omega
  have hmf : ∀ (fn : Fn) (first cap : Array Value) (w : World), (Instr.makeFunc fn first cap).run Tryz.prog w = .ok (.func fn first cap) w := fun _ _ _ _ => rfl
  have HWE := Lib.hid (show ((w.alloc (.cells zeroI 24)).alloc (.cells #[.int .i64 0] 26)).alloc (wordsObj l) = splitW w (wordsObj l) from rfl)
  have HSZ := Lib.hid (show ((w.alloc (.cells zeroI 24)).alloc (.cells #[.int .i64 0] 26)).heap.size = w.heap.size + 2 by simp)
  generalize splitW w (wordsObj l) = W at *
  go_enter_defers Tryz.func12, Tryz.ntmps12
  go_wp2_with fail
  refine HS.out.mono ?_
  rintro e w1 ⟨rfl, rfl⟩
  simp only [Bool.false_eq_true, if_false]
  rw [HWE.out, HSZ.out]
  go_wp2_with fail
  refine (HR.out _ HA.out.low).mono ?_
  rintro e w2 ⟨rfl, hb⟩
  have HB2 := Lib.hid hb
  clear hb
  go_upto_region 4 with (refine wpList_store_row rfl 24 _ _ rfl w.heap.size (flA x0) rfl rfl 24 zeroI (HA.out.ins.low HB2.out) info_ins rfl (by kernel_rfl) ?_)
  have HI3 := Lib.hid (CsAt.row (HA.out.ins.low HB2.out) (flA x0))
  have HE3 := Lib.hid (CsAt.rowFar (HA.out.err.low HB2.out) (show w.heap.size + 1 ≠ w.heap.size by omega) (flA x0))
  have HL3 := Lib.hid (below_setRow (HA.out.low.trans (HB2.out.mono HA.out.low.size)) (Nat.le_refl w.heap.size) (flA x0))
  have HW3 := Lib.hid (show ∀ j, j < (wordsB l).length → (w2.setRow w.heap.size (flA x0)).cell? ⟨w.heap.size + 2, j, none⟩ = some (.string ((wordsB l).getD j ByteArray.empty)) from fun j hj =>
    (cell_setRow_other w2 w.heap.size (flA x0) ⟨w.heap.size + 2, j, none⟩ (by simp)).trans ((HB2.out.cell (p := ⟨w.heap.size + 2, j, none⟩) (lt_cell (HA.out.words j hj))).trans (HA.out.words j hj)))
  generalize w2.setRow w.heap.size (flA x0) = W3 at *
  clear c0
  simp only [Act.put]
  obtain ⟨n', rfl⟩ : ∃ n', n = n' + 1 := ⟨n - 1, by omega⟩
  go_cut [5, 6] from 10 to 47 (fun s5 s6 wx => s6 = .slice (if n' = 0 then some ⟨w.heap.size + 2, 0, none⟩ else some ⟨w.heap.size + 2, 1, none⟩) n' n' ∧ OpsAny wx s5 (opsL (fmtN x0.op)) ∧ Below W3.heap.size W3 wx)
  case first =>
    have i0 : W3.drew.cell? ⟨w.heap.size, 0, none⟩ = some (.int .i64 x0.op) := HI3.out.cell 0
    have hn1i : (1 : Int) ≤ (n' : Int) + 1 := by omega
    rcases n' with _ | n'
    · refine wp_region_noPanic ?_
      go_region_with ((first | (go_at_call 22; refine (formatOf_c _ _).mono ?_; rintro e wf ⟨rfl, hbf⟩; have HBf := Lib.hid (((Below.refl W3.heap.size W3).drew).trans hbf); clear hbf) | (go_at_call 21; refine (operands_c _ hf1 hf2 _).mono ?_; rintro e wo ⟨v, rfl, hbo, hop⟩; have HBo := Lib.hid (HBf.out.trans (hbo.mono HBf.out.size)); have HOP := Lib.hid hop; clear hbo hop)))
      all_goals
        refine NoPanic.normal ?_
        go_wp2_with fail
        go_meet
        case rel => exact ⟨rfl, HOP.out, HBo.out⟩
    · refine wp_region_noPanic ?_
      go_region_with ((first | (go_at_call 22; refine (formatOf_c _ _).mono ?_; rintro e wf ⟨rfl, hbf⟩; have HBf := Lib.hid (((Below.refl W3.heap.size W3).drew).trans hbf); clear hbf) | (go_at_call 21; refine (operands_c _ hf1 hf2 _).mono ?_; rintro e wo ⟨v, rfl, hbo, hop⟩; have HBo := Lib.hid (HBf.out.trans (hbo.mono HBf.out.size)); have HOP := Lib.hid hop; clear hbo hop)))
      all_goals
        refine NoPanic.normal ?_
        go_wp2_with fail
        go_meet
        case rel => exact ⟨rfl, HOP.out, HBo.out⟩
  case rest =>
    obtain ⟨hs6, hop, hbx⟩ := hcut
    have HPQ := Lib.hid (show n' ≠ 0 → (if n' = 0 then some (⟨w.heap.size + 2, 0, none⟩ : Addr) else some ⟨w.heap.size + 2, 1, none⟩) = some ⟨w.heap.size + 2, 1, none⟩ from fun h => if_neg h)
    generalize (if n' = 0 then some (⟨w.heap.size + 2, 0, none⟩ : Addr) else some ⟨w.heap.size + 2, 1, none⟩) = pq at *
    subst hs6
    rw [opsL_kd _ hf2, HKS.out] at hop
    obtain ⟨o, rfl, hopsE⟩ := opsEach hop
    have HBx := Lib.hid hbx
    have HOE := Lib.hid hopsE
    clear hop hbx hopsE
    have hlen := HLE.out
    have hnk : n' = Ks.length := by have := HCT.out; omega
    have HP0 := Lib.hid (show ParseAt w l o Ks x0 wc from ⟨HI3.out.low HBx.out, HE3.out.low HBx.out, fun j hj => (HBx.out.cell (p := ⟨w.heap.size + 2, j, none⟩) (lt_cell (HW3.out j hj))).trans (HW3.out j hj), HOE.out, HL3.out.trans (HBx.out.mono HL3.out.size)⟩)
    subst hnk
    have e1 : (((Ks.length : Nat) : Int) == ((Ks.length : Nat) : Int)) = true := by
      rw [beq_iff_eq]
    have e2 : (Ks.length == Ks.length) = true := by
      rw [beq_iff_eq]
    clear HS HR HA HB2 HI3 HE3 HL3 HW3 HBx HOE
    go_wp2_with fail
    refine (must_yes _ _).mono ?_
    rintro e wm ⟨rfl, rfl⟩
    go_wp2_with fail
    go_loopw [30] (fun i wr => ∃ (k : Nat) (x : Fl), k ≤ Ks.length ∧ i = .int .i64 k ∧ preK Ks (fun j => (wordsB l).getD (j + 1) ByteArray.empty) x0 k = .ok x ∧ ParseAt w l o Ks x wr) (fun i _ => Ks.length - (intOf i).toNat)
    case atStart => exact ⟨0, x0, Nat.zero_le _, rfl, rfl, HP0.out⟩
    case round =>
      obtain ⟨k, x, hk, rfl, hpk, hP⟩ := hrel
      have HP := Lib.hid hP
      have HPK := Lib.hid hpk
      clear hP hpk
      by_cases hlt : k < Ks.length
      · obtain ⟨B, ps, hps⟩ := HP.out.ops
        obtain ⟨ho', q0, q1, q2⟩ := hps k hlt
        have hq : pq = some ⟨w.heap.size + 2, 1, none⟩ := HPQ.out (by omega)
        subst ho' hq
        have hwk := HP.out.words (k + 1) (by rw [HLN.out]; omega)
        rw [Nat.add_comm k 1] at hwk
        have HST := Lib.hid (preK_step HPK.out)
        have HOP := Lib.hid (preK_op HPK.out)
        simp only [Nat.add_comm k 1] at HST
        clear hps
        rw [Nat.mul_comm 2 k] at q0 q1
        have hlt2 : (k : Int) < (Ks.length : Int) := by omega
        generalize Ks.getD k .rd = kk at *
        generalize ps.getD k 0 = pp at *
        generalize (wordsB l).getD (1 + k) ByteArray.empty = sw at *
        have HT1 := Lib.hid (opd_enters2 kk)
        have hsf := store_fn
        have HBn := Lib.hid ((Below.refl wr.heap.size wr).alloc (Nat.le_refl _) (.cells #[capV (opd kk).1 pp, capV (opd kk).2.1 pp] 57))
        have HPn := Lib.hid (HP.out.on HBn.out)
        have HQ := Lib.hid (old_alloc wr (.cells #[capV (opd kk).1 pp, capV (opd kk).2.1 pp] 57) q2)
        have HWK := Lib.hid (old_alloc wr (.cells #[capV (opd kk).1 pp, capV (opd kk).2.1 pp] 57) hwk)
        clear hwk
        go_upto_region 9 with fail
        generalize hWn : wr.alloc (.cells #[capV (opd kk).1 pp, capV (opd kk).2.1 pp] 57) = Wn at *
        have d1 : Wn.cell? ⟨wr.heap.size, 1, none⟩ = some (capV (opd kk).2.1 pp) := by subst hWn; simp [go_sem]
        obtain ⟨Wd, hWd⟩ : ∃ Wd, Wn.drew = Wd := ⟨_, rfl⟩
        have c1 : Wd.cell? ⟨wr.heap.size, 1, none⟩ = some (capV (opd kk).2.1 pp) := hWd ▸ d1
        have c2 : Wd.cell? ⟨w.heap.size + 2, 1 + k, none⟩ = some (.string sw) := hWd ▸ HWK.out
        have HPd := Lib.hid (show ParseAt w l _ Ks x Wd from hWd ▸ HPn.out.on ((Below.refl _ _).drew))
        have HQd := Lib.hid (show Wd.cell? ⟨pp, 0, none⟩ = some (opd kk).2.2 from hWd ▸ HQ.out)
        have HOd := Lib.hid (HOK.out.low HPd.out.low)
        have HEd := Lib.hid (HEK.out.low HPd.out.low)
        clear d1 hWn HPn HQ HWK HBn HP q0 q1 q2
        refine wp_region_steady_tail (fun W => W = Wd) 6 (by kernel_rfl) (by kernel_rfl) hWd ?_
        clear hWd
        iterate 6
          refine steady_val ?_ ?_ (by rfl) (fun W hS => ?_) ?_ ?_
          rotate_left 2
          · subst hS
            go_simp
            exact rfl
          · go_simp
            exact rfl
        refine steady_nil ?_
        rintro W rfl
        simp only [List.drop_succ_cons, List.drop_zero]
        clear c1 c2
        go_wp2_with fail
        rw [HT1.out]
        have HRK := Lib.hid (readK_c kk sw x w.heap.size pp W HOd.out.names HEd.out HQd.out HPd.out.ins)
        cases hst : stepK kk sw x with
        | error e =>
          rw [hst] at HRK HST
          have hv : V = .tuple #[.agg zeroI, .int .i64 e] := by
            have h1 := preK_err HST.out (Ks.length - (1 + k))
            rw [show 1 + k + (Ks.length - (1 + k)) = Ks.length by omega] at h1
            rw [← HV.out, h1]
            rfl
          subst hv
          refine HRK.out.mono ?_
          rintro r w5 ⟨rfl, hb⟩
          have HP5 := Lib.hid (HPd.out.on hb)
          clear hb
          go_wp2_with fail
          exact parse_exit e _ w.heap.size (w.heap.size + 1) w.heap.size _ _ w _ rfl rfl HP5.out.ins rfl HP5.out.err (by omega) HP5.out.low (Nat.le_refl _) (by omega)
        | ok y =>
          rw [hst] at HRK HST
          refine HRK.out.mono ?_
          rintro r w5 ⟨rfl, hb⟩
          have HP5 := Lib.hid (HPd.out.read (fun j hj => by rw [HOP.out]; exact HFAR.out j hj) hb)
          clear hb
          go_wp2_with fail
          go_roundw
          case rel => exact ⟨k + 1, y, by omega, by go_num, by rw [Nat.add_comm k 1]; exact HST.out, HP5.out⟩
          case measure => simp [intOf]; omega
      · obtain rfl : k = Ks.length := by omega
        have HVV := Lib.hid (show finV (.ok x) = V from HPK.out ▸ HV.out)
        clear HV HPK
        have HOr := Lib.hid (HOK.out.low HP.out.low)
        have i0 : wr.cell? ⟨w.heap.size, 0, none⟩ = some (.int .i64 x.op) := HP.out.ins.cell 0
        have i1 : wr.cell? ⟨w.heap.size, 1, none⟩ = some (.int .i64 x.rd) := HP.out.ins.cell 1
        have i2 : wr.cell? ⟨w.heap.size, 2, none⟩ = some (.int .i64 x.rs1) := HP.out.ins.cell 2
        have i3 : wr.cell? ⟨w.heap.size, 3, none⟩ = some (.int .i64 x.rs2) := HP.out.ins.cell 3
        have i4 : wr.cell? ⟨w.heap.size, 4, none⟩ = some (.int .i64 x.imm) := HP.out.ins.cell 4
        have i5 : wr.cell? ⟨w.heap.size, 5, none⟩ = some (.int .i64 x.csr) := HP.out.ins.cell 5
        have i6 : wr.cell? ⟨w.heap.size, 6, none⟩ = some (.bool x.aq) := HP.out.ins.cell 6
        have i7 : wr.cell? ⟨w.heap.size, 7, none⟩ = some (.bool x.rl) := HP.out.ins.cell 7
        have HCK := Lib.hid (check_c x.op x.rd x.rs1 x.rs2 x.imm x.csr x.aq x.rl wr HOr.out.vars)
        go_wp2_with fail
        clear i0 i1 i2 i3 i4 i5 i6 i7
        by_cases hc : checkF x = 0
        · have hv : V = .tuple #[.agg (flA x), .int .i64 0] := by rw [← HVV.out]; simp only [finV, hc, if_true]
          subst hv
          refine HCK.out.mono ?_
          rintro r w5 ⟨rfl, hb⟩
          have HP5 := Lib.hid (HP.out.on hb)
          rw [show checkS x.op x.rd x.rs1 x.rs2 x.imm x.csr x.aq x.rl = 0 from hc]
          clear hb HCK
          go_wp2_with fail
          refine (must_yes _ _).mono ?_
          rintro e wm ⟨rfl, rfl⟩
          have i0 : w5.cell? ⟨w.heap.size, 0, none⟩ = some (.int .i64 x.op) := HP5.out.ins.cell 0
          have i1 : w5.cell? ⟨w.heap.size, 1, none⟩ = some (.int .i64 x.rd) := HP5.out.ins.cell 1
          have i2 : w5.cell? ⟨w.heap.size, 2, none⟩ = some (.int .i64 x.rs1) := HP5.out.ins.cell 2
          have i3 : w5.cell? ⟨w.heap.size, 3, none⟩ = some (.int .i64 x.rs2) := HP5.out.ins.cell 3
          have i4 : w5.cell? ⟨w.heap.size, 4, none⟩ = some (.int .i64 x.imm) := HP5.out.ins.cell 4
          have i5 : w5.cell? ⟨w.heap.size, 5, none⟩ = some (.int .i64 x.csr) := HP5.out.ins.cell 5
          have i6 : w5.cell? ⟨w.heap.size, 6, none⟩ = some (.bool x.aq) := HP5.out.ins.cell 6
          have i7 : w5.cell? ⟨w.heap.size, 7, none⟩ = some (.bool x.rl) := HP5.out.ins.cell 7
          have HI6 := Lib.hid (CsAt.row HP5.out.ins (flA x))
          have HE6 := Lib.hid (CsAt.rowFar HP5.out.err (show w.heap.size + 1 ≠ w.heap.size by omega) (flA x))
          have HL6 := Lib.hid (below_setRow HP5.out.low (Nat.le_refl w.heap.size) (flA x))
          have f0 : (w5.setRow w.heap.size (flA x)).cell? ⟨w.heap.size + 1, 0, none⟩ = some (.int .i64 0) := HE6.out.cell 0
          have f1 : (w5.setRow w.heap.size (flA x)).frozen? ⟨w.heap.size + 1, 0, none⟩ = false := HE6.out.frozen 0
          go_wp2_with (refine wpList_store_row rfl 24 _ _ rfl w.heap.size (flA x) rfl rfl 24 (flA x) HP5.out.ins info_ins rfl (by kernel_rfl) ?_)
          clear i0 i1 i2 i3 i4 i5 i6 i7
          exact parse_done 0 _ w.heap.size (w.heap.size + 1) w.heap.size _ w _ rfl rfl ((heap_setCell_other _ ⟨w.heap.size + 1, 0, none⟩ w.heap.size _ (show w.heap.size ≠ w.heap.size + 1 by omega)).trans HI6.out) rfl (World.cell?_setCell_same' _ _ _ (by rw [f0]; rfl)) (HL6.out.setCell (p := ⟨w.heap.size + 1, 0, none⟩) (show w.heap.size ≤ w.heap.size + 1 by omega) _)
        · have hv : V = .tuple #[.agg zeroI, .int .i64 3] := by rw [← HVV.out]; simp only [finV, hc, if_false]
          subst hv
          have e3 : (checkS x.op x.rd x.rs1 x.rs2 x.imm x.csr x.aq x.rl == 0) = false := by simpa [checkF] using hc
          refine HCK.out.mono ?_
          rintro r w5 ⟨rfl, hb⟩
          have HP5 := Lib.hid (HP.out.on hb)
          clear hb HCK HOr
          generalize checkS x.op x.rd x.rs1 x.rs2 x.imm x.csr x.aq x.rl = cc at *
          go_wp2_with fail
          refine (must_no _ _).mono ?_
          rintro e wm ⟨rfl, rfl⟩
          go_wp2_with fail
          exact parse_exit 3 _ w.heap.size (w.heap.size + 1) w.heap.size _ _ w _ rfl rfl HP5.out.ins rfl HP5.out.err (by omega) HP5.out.low (Nat.le_refl _) (by omega)
end Go.Proofs.YthehcplogkgkeaaGreatDoor
namespace Go.Proofs.Wds
open Go.Lib

/-- The words of a line, told from its front. -/
def splF : List UInt8 → List (List UInt8)
  | [] => [[]]
  | c :: r => if c = 32 then [] :: splF r else
    match splF r with
    | [] => [[c]]
    | w :: ws => (c :: w) :: ws
theorem splF_ne : ∀ l, splF l ≠ []
  | [] => by simp [splF]
  | c :: r => by
    unfold splF
    split
    · simp
    · split <;> simp
theorem splF_sp (r : List UInt8) : splF (32 :: r) = [] :: splF r := by simp [splF]
theorem splF_ns {c : UInt8} {r w : List UInt8} {ws : List (List UInt8)} (h : c ≠ 32) (hr : splF r = w :: ws) : splF (c :: r) = (c :: w) :: ws := by
  rw [splF, if_neg h, hr]
theorem splF_snoc_sp : ∀ l : List UInt8, splF (l ++ [32]) = splF l ++ [[]]
  | [] => by simp [splF]
  | c :: r => by
    by_cases h : c = 32
    · subst h; rw [List.cons_append, splF_sp, splF_sp, splF_snoc_sp r]; rfl
    · obtain ⟨w, ws, hw⟩ : ∃ w ws, splF r = w :: ws := by
        cases hs : splF r with
        | nil => exact absurd hs (splF_ne r)
        | cons w ws => exact ⟨w, ws, rfl⟩
      rw [List.cons_append, splF_ns h hw, splF_ns (w := w) (ws := ws ++ [[]]) h (by rw [splF_snoc_sp r, hw]; rfl)]
      rfl
theorem splF_snoc_ns {c : UInt8} (hc : c ≠ 32) : ∀ (l : List UInt8) (d : List (List UInt8)) (w : List UInt8), splF l = d ++ [w] → splF (l ++ [c]) = d ++ [w ++ [c]]
  | [], d, w, h => by
    cases d with
    | nil => simp [splF] at h ⊢; subst h; simp [hc]
    | cons a d => simp [splF] at h
  | b :: r, d, w, h => by
    by_cases hb : b = 32
    · subst hb
      rw [splF_sp] at h
      cases d with
      | nil => simp at h; exact absurd h.2 (splF_ne r)
      | cons a d =>
        simp at h
        rw [List.cons_append, splF_sp, splF_snoc_ns hc r d w h.2]
        simp [h.1]
    · obtain ⟨u, us, hu⟩ : ∃ w ws, splF r = w :: ws := by
        cases hs : splF r with
        | nil => exact absurd hs (splF_ne r)
        | cons w ws => exact ⟨w, ws, rfl⟩
      rw [splF_ns hb hu] at h
      cases d with
      | nil =>
        simp at h
        obtain ⟨rfl, rfl⟩ := h
        have := splF_snoc_ns hc r [] u (by simpa using hu)
        rw [List.cons_append, splF_ns hb (by simpa using this)]
        rfl
      | cons a d =>
        simp at h
        obtain ⟨rfl, rfl⟩ := h
        have := splF_snoc_ns hc r (u :: d) w (by simpa using hu)
        rw [List.cons_append, splF_ns hb (by simpa using this)]
        rfl
theorem split_splF : ∀ l : List UInt8, split l [32] = splF l
  | [] => by rw [split, count_miss (by simp [index])]; rfl
  | b :: r => by
    have ih := split_splF r
    by_cases hb : b = 32
    · subst hb
      have hix : index (32 :: r) [32] = 0 := by rw [index]; simp [List.isPrefixOf]
      rw [split, count_cons_eq, Nat.add_comm, splitK, hix, splF_sp, ← ih, split]
      simp
    · have hp : ([32] : List UInt8).isPrefixOf (b :: r) = false := by simp [List.isPrefixOf, Ne.symm hb]
      have hix : index (b :: r) [32] = if index r [32] == -1 then -1 else index r [32] + 1 := by rw [index, hp]; simp
      rw [split, count_cons_ne b 32 r hb]
      by_cases hm : index r [32] = -1
      · rw [count_miss hm]
        rw [split, count_miss hm] at ih
        rw [splF_ns hb (w := r) (ws := []) (by rw [← ih]; rfl)]
        rfl
      · have hge := index_ge r [32]
        obtain ⟨j, hj⟩ : ∃ j : Nat, index r [32] = j := ⟨(index r [32]).toNat, by omega⟩
        have hix' : index (b :: r) [32] = ((j + 1 : Nat) : Int) := by rw [hix, if_neg (fun e => hm (beq_iff_eq.1 e)), hj]; omega
        rw [split, count_hit (by simp) hj, Nat.add_comm, splitK, hj, if_neg (by simp)] at ih
        rw [count_hit (by simp) hj, Nat.add_comm, splitK, hix', if_neg (by simp; omega)]
        rw [splF_ns hb ih.symm]
        simp
theorem splF_len : ∀ l : List UInt8, (splF l).length ≤ l.length + 1
  | [] => by simp [splF]
  | c :: r => by
    have ih := splF_len r
    by_cases h : c = 32
    · subst h; rw [splF_sp]; simp; omega
    · cases hs : splF r with
      | nil => exact absurd hs (splF_ne r)
      | cons w ws => rw [splF_ns h hs]; rw [hs] at ih; simp at ih ⊢; omega
theorem splF_sizes : ∀ l : List UInt8, ∀ w ∈ splF l, w.length ≤ l.length
  | [], w, h => by simp [splF] at h; subst h; simp
  | c :: r, w, h => by
    have ih := splF_sizes r
    by_cases hc : c = 32
    · subst hc
      rw [splF_sp] at h
      simp at h
      rcases h with rfl | h
      · simp
      · have := ih w h; simp; omega
    · cases hs : splF r with
      | nil => exact absurd hs (splF_ne r)
      | cons u us =>
        rw [splF_ns hc hs] at h
        rw [hs] at ih
        simp at h
        rcases h with rfl | h
        · have := ih u (by simp); simp; omega
        · have := ih w (by simp [h]); simp; omega
end Go.Proofs.Wds
set_option maxRecDepth 4000
namespace Go.Proofs.YthehcplogkgkeaaGreatDoor
open Go.ChangeShapes Go.WideShapes Go.ChangeAt Go.RowKit Wd Num

def opF (n k : Nat) : Fl := ⟨(n : Nat), 0, 0, 0, 0, 0, k == 1 || k == 3, k == 2 || k == 3⟩
/-- The instruction of a first word, without operands; none: it names nothing. -/
def nameF (s : ByteArray) : Option Fl :=
  if hitK s 0 then some (opF (cutN s 0) 0) else if hitK s 1 then some (opF (cutN s 1) 1) else if hitK s 2 then some (opF (cutN s 2) 2) else if hitK s 3 then some (opF (cutN s 3) 3) else none
theorem nameE_F (s : ByteArray) : nameE s = match nameF s with | some x => .returned (.agg (flA x)) | none => errEnd 9 := by
  unfold nameE nameF
  cases hitK s 0
  · cases hitK s 1
    · cases hitK s 2
      · cases hitK s 3 <;> rfl
      · rfl
    · rfl
  · rfl
theorem nameF_hit {s : ByteArray} {x : Fl} (h : nameF s = some x) : ∃ k, k < 4 ∧ hitK s k = true ∧ x = opF (cutN s k) k := by
  unfold nameF at h
  split at h
  · exact ⟨0, by decide, by assumption, (Option.some.inj h).symm⟩
  split at h
  · exact ⟨1, by decide, by assumption, (Option.some.inj h).symm⟩
  split at h
  · exact ⟨2, by decide, by assumption, (Option.some.inj h).symm⟩
  split at h
  · exact ⟨3, by decide, by assumption, (Option.some.inj h).symm⟩
  · cases h
theorem findN_le (s : ByteArray) : findN s ≤ 98 := by
  unfold findN
  cases h : (told 98).find? (isNm s) with
  | none => simp
  | some n =>
    have hm := List.mem_of_find?_eq_some h
    have hl : ∀ n ∈ told 98, n ≤ 98 := by decide +kernel
    exact hl n hm
theorem hit_ne {s : ByteArray} {k : Nat} (h : hitK s k = true) : cutN s k ≠ 0 := by
  unfold hitK at h
  simp only [Bool.and_eq_true] at h
  simpa using h.1.2
theorem nameF_op {s : ByteArray} {x : Fl} (h : nameF s = some x) : 1 ≤ x.op ∧ x.op ≤ 98 := by
  obtain ⟨k, -, hk, rfl⟩ := nameF_hit h
  have h1 := hit_ne hk
  have h2 : cutN s k ≤ 98 := findN_le _
  show (1 : Int) ≤ ((cutN s k : Nat) : Int) ∧ ((cutN s k : Nat) : Int) ≤ 98
  omega
theorem nameF_fmt {s : ByteArray} {x : Fl} (h : nameF s = some x) : 1 ≤ fmtN x.op := by
  have h1 := nameF_op h
  have h2 : fmtN x.op ≠ 0 := fun e => (fmt_zero x.op).1 e h1
  omega
def wsF (l : ByteArray) (j : Nat) : ByteArray := (wordsB l).getD (j + 1) ByteArray.empty
def parseE (l : ByteArray) : Except Int Fl :=
  if 200 < l.size then .error 4 else if l.size = 0 then .error 5 else if Lib.containsS (wordsB l) ⟨#[]⟩ then .error 2 else
  match nameF ((wordsB l).getD 0 ByteArray.empty) with
  | none => .error 9
  | some x0 => if (wordsB l).length ≠ (kdL (fmtN x0.op)).length + 1 then .error 2 else preK (kdL (fmtN x0.op)) (wsF l) x0 (kdL (fmtN x0.op)).length
def parseV (l : ByteArray) : Value := finV (parseE l)
theorem words_map (l : ByteArray) : (wordsB l).map (·.data.toList) = Wds.splF l.data.toList := by
  unfold wordsB
  rw [Lib.splitB_data]
  exact Wds.split_splF l.data.toList
theorem words_size (l : ByteArray) : (wordsB l).length ≤ l.size + 1 := by
  have h := congrArg List.length (words_map l)
  rw [List.length_map] at h
  rw [h]
  exact Wds.splF_len _
theorem word_size (l : ByteArray) (j : Nat) : ((wordsB l).getD j ByteArray.empty).size ≤ l.size := by
  by_cases h : j < (wordsB l).length
  · have hm : ((wordsB l).getD j ByteArray.empty).data.toList ∈ Wds.splF l.data.toList := by
      rw [← words_map l]
      refine List.mem_map.2 ⟨_, ?_, rfl⟩
      simp [List.getD, h]
    have := Wds.splF_sizes _ _ hm
    exact this
  · simp [List.getD, List.getElem?_eq_none (Nat.le_of_not_lt h)]
theorem parse_c (l : ByteArray) (w : World) (hl : l.size < 4294967281) (hm : MaxAt w) (ho : AsmOk w) (he : ErrsAt w) :
    Calls Tryz.prog 12 #[.string l] w fun r w' => r = .returned (parseV l) ∧ Below w.heap.size w w' := by
  by_cases h1 : 200 < l.size
  · have e : parseV l = .tuple #[.agg zeroI, .int .i64 4] := by unfold parseV parseE; rw [if_pos h1]; rfl
    rw [e]
    exact parse_long l w h1 hl
  by_cases h2 : l.size = 0
  · have e : parseV l = .tuple #[.agg zeroI, .int .i64 5] := by unfold parseV parseE; rw [if_neg h1, if_pos h2]; rfl
    rw [e]
    obtain rfl : l = ⟨#[]⟩ := by
      obtain ⟨⟨d⟩⟩ := l
      cases d with
      | nil => rfl
      | cons a r => simp [ByteArray.size] at h2
    exact parse_empty w
  have hn2 := words_size l
  have hw0 : 0 < (wordsB l).length := by rw [words_len]; omega
  by_cases h3 : Lib.containsS (wordsB l) ⟨#[]⟩ = true
  · have e : parseV l = .tuple #[.agg zeroI, .int .i64 2] := by unfold parseV parseE; rw [if_neg h1, if_neg h2, if_pos h3]; rfl
    rw [e]
    exact parse_blank l w (by omega) (by omega) hm (by omega) h3
  have h3' : Lib.containsS (wordsB l) ⟨#[]⟩ = false := by simpa using h3
  have hsz := word_size l 0
  have e0 := nameE_F ((wordsB l).getD 0 ByteArray.empty)
  cases h4 : nameF ((wordsB l).getD 0 ByteArray.empty) with
  | none =>
    rw [h4] at e0
    have e : parseV l = .tuple #[.agg zeroI, .int .i64 9] := by unfold parseV parseE; rw [if_neg h1, if_neg h2, if_neg h3, h4]; rfl
    rw [e]
    exact parse_noname l _ w (by omega) (by omega) hm ho.orders hw0 (by omega) h3' rfl (by omega) e0
  | some x0 =>
    rw [h4] at e0
    have hf := nameF_fmt h4
    by_cases h5 : (wordsB l).length = (kdL (fmtN x0.op)).length + 1
    · have e : parseV l = finV (preK (kdL (fmtN x0.op)) (wsF l) x0 (kdL (fmtN x0.op)).length) := by
        unfold parseV parseE
        rw [if_neg h1, if_neg h2, if_neg h3, h4]
        simp only [h5, ne_eq, not_true_eq_false, if_false]
      rw [e]
      exact parse_steps l _ x0 w (by omega) (by omega) hm ho he hw0 (by omega) h3' rfl (by omega) e0 hf _ rfl h5 _ rfl
    · have e : parseV l = .tuple #[.agg zeroI, .int .i64 2] := by
        unfold parseV parseE
        rw [if_neg h1, if_neg h2, if_neg h3, h4]
        simp only [ne_eq, h5, not_false_eq_true, if_true]
        rfl
      rw [e]
      exact parse_count l _ x0 w (by omega) (by omega) hm ho hw0 (by omega) h3' rfl (by omega) e0 hf h5
end Go.Proofs.YthehcplogkgkeaaGreatDoor
