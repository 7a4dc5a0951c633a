/-
  The reference of layer 17: its value; contracts of bit, Bytes, come, Cause, Input. The reference of layer 17: contracts of Cause, Input, Read. The reference of layer 17: contract of Read.
-/
import Derived.Test.YtfjdalepaacmgaaGreatYam
set_option maxRecDepth 20000
namespace Go.Proofs.YtfjdalepaacmgaaGreat
open Go.ChangeShapes Go.WideShapes Go.ChangeAt Go.RowKit

abbrev X17 : TypeId := 51
def xuV (s : Ut.S) (iv ov : Value) : Array Value := #[.int .i64 s.ier, .int .i64 s.lcr, .int .i64 s.mcr, .int .i64 s.scr, .int .i64 s.dll, .int .i64 s.dlm, .bool s.fifo, .bool s.lost, .bool s.empty, iv, ov]
theorem info_X17 : (Tryz.prog.info? X17).map (·.size) = some 11 := by kernel_rfl
theorem zero_x17 (W : World) : (zeroValue X17).run Tryz.prog W = .ok (.agg (xuV Ut.zero (.slice none 0 0) (.slice none 0 0))) W := by kernel_rfl
/-- A slice of bytes that can be read, in none of the blocks of G. -/
def VwG (G : Nat → Prop) (w : World) (v : Value) (xs : List Int) : Prop :=
  ∃ p cap, v = .slice p xs.length cap ∧ xs.length ≤ cap ∧ (p = none ∧ cap = 0 ∨ ∃ b off, p = some ⟨b, off, none⟩ ∧ b < w.heap.size ∧ ¬ G b) ∧ ∀ b off, p = some ⟨b, off, none⟩ → ∀ j, j < xs.length → w.cell? ⟨b, off + j, none⟩ = some (.int .u8 (xs.getD j 0))
section
variable {G H : Nat → Prop} {w w' : World} {v : Value} {xs : List Int}
theorem VwG.keep (h : VwG G w v xs) (hc : Chg G w w') : VwG G w' v xs := by
  obtain ⟨p, cap, rfl, hcap, h1, h2⟩ := h
  refine ⟨p, cap, rfl, hcap, h1.imp id (fun ⟨b, off, e, hl, hn⟩ => ⟨b, off, e, Nat.lt_of_lt_of_le hl hc.size, hn⟩), fun b off e j hj => ?_⟩
  rcases h1 with h1 | ⟨b', off', e', hl, hn⟩
  · rw [h1.1] at e; cases e
  · rw [e'] at e
    cases e
    exact hc.cell (h2 b off e' j hj) hn
theorem VwG.low (h : VwG G w v xs) (hb : Below w.heap.size w w') : VwG G w' v xs := h.keep (Chg.of_below hb)
/-- The blocks that are none of it may be others, as long as they are new. -/
theorem VwG.more (h : VwG G w v xs) (hH : ∀ k, H k → G k ∨ w.heap.size ≤ k) : VwG H w v xs := by
  obtain ⟨p, cap, rfl, hcap, h1, h2⟩ := h
  exact ⟨p, cap, rfl, hcap, h1.imp id (fun ⟨b, off, e, hl, hn⟩ => ⟨b, off, e, hl, fun c => (hH b c).elim hn (fun c2 => by omega)⟩), h2⟩
theorem VwG.b (h : VwG G w v xs) : VwB w v xs := by
  obtain ⟨p, cap, rfl, hcap, h1, h2⟩ := h
  refine ⟨p, cap, rfl, ?_⟩
  rcases h1 with ⟨rfl, rfl⟩ | ⟨b, off, rfl, hl, -⟩
  · exact .inl (List.length_eq_zero_iff.1 (by omega))
  · exact .inr ⟨b, off, rfl, hl, h2 b off rfl⟩
theorem VwG.nil (G : Nat → Prop) (w : World) : VwG G w (.slice none 0 0) [] := ⟨none, 0, rfl, Nat.le_refl _, .inl ⟨rfl, rfl⟩, fun b off e => by cases e⟩
/-- One that was made in a later world. -/
theorem own_vwG {N : Nat} {e : TypeId} (h : w.ownsRow N e 1 v xs.length (u8V xs)) (hG : ∀ k, G k → k < N) : VwG G w v xs := by
  rcases h.2 with ⟨rfl, h0⟩ | ⟨g, cap, cur, rfl, hb, hg, hc, -⟩
  · obtain rfl : xs = [] := List.length_eq_zero_iff.1 h0
    exact VwG.nil G w
  · refine ⟨_, cap, rfl, hc, .inr ⟨g, 0, rfl, (Array.getElem?_eq_some_iff.1 hg).1, fun c => by have := hG g c; omega⟩, fun b off e j hj => ?_⟩
    cases e
    have := h.cellAt j (by omega)
    rw [Nat.zero_add, this, u8V_at xs j hj]
theorem VwG.form (h : VwG G w v xs) : ∃ p cap, v = .slice p xs.length cap ∧ Vw w p (u8V xs) ∧ (p = none ∧ cap = 0 ∨ ∃ b off, p = some ⟨b, off, none⟩) := by
  have hb := h.b
  obtain ⟨p, cap, rfl, hcap, h1, h2⟩ := h
  exact ⟨p, cap, rfl, hb.vw, h1.imp id (fun ⟨b, off, e, _, _⟩ => ⟨b, off, e⟩)⟩
end
theorem VwG.one {G : Nat → Prop} {w : World} {v : Value} {xs : List Int} (h : VwG G w v xs) : v.oneCell' = true := by
  obtain ⟨p, cap, rfl, -⟩ := h
  rfl
theorem xuV_one (s : Ut.S) {iv ov : Value} (hi : iv.oneCell' = true) (ho : ov.oneCell' = true) : (xuV s iv ov).all (·.oneCell') = true := by
  rw [Array.all_eq_true_iff_forall_mem]
  intro v hv
  simp only [xuV, List.mem_toArray, List.mem_cons, List.not_mem_nil, or_false] at hv
  rcases hv with rfl | rfl | rfl | rfl | rfl | rfl | rfl | rfl | rfl | rfl | rfl
  all_goals first | rfl | exact hi | exact ho
/-- The first two blocks of a call: the parameter, the result. -/
structure XuAt (w W : World) (s t : Ut.S) (iv ov jv qv : Value) : Prop where
  x : CsAt W w.heap.size X17 (xuV s iv ov)
  r : CsAt W (w.heap.size + 1) X17 (xuV t jv qv)
  bel : Below w.heap.size w W
section
variable {w W W' : World} {s t u : Ut.S} {iv ov jv qv kv lv : Value}
theorem XuAt.new (w : World) (s : Ut.S) (iv ov : Value) : XuAt w ((w.alloc (.cells (xuV s iv ov) X17)).alloc (.cells (xuV Ut.zero (.slice none 0 0) (.slice none 0 0)) X17)) s Ut.zero iv ov (.slice none 0 0) (.slice none 0 0) := by
  have e : (w.alloc (.cells (xuV s iv ov) X17)).heap.size = w.heap.size + 1 := by simp
  refine ⟨(CsAt.new w X17 _).alloc _, ?_, ((Below.refl _ _).alloc (Nat.le_refl _) _).alloc (by simp) _⟩
  have := CsAt.new (w.alloc (.cells (xuV s iv ov) X17)) X17 (xuV Ut.zero (.slice none 0 0) (.slice none 0 0))
  rwa [e] at this
theorem XuAt.low (h : XuAt w W s t iv ov jv qv) (hb : Below W.heap.size W W') : XuAt w W' s t iv ov jv qv := ⟨h.x.low hb, h.r.low hb, h.bel.trans (hb.mono h.bel.size)⟩
theorem XuAt.cells (h : XuAt w W s t iv ov jv qv) : W.cell? ⟨w.heap.size, 0, none⟩ = some (.int .i64 s.ier) ∧ W.cell? ⟨w.heap.size, 1, none⟩ = some (.int .i64 s.lcr) ∧ W.cell? ⟨w.heap.size, 2, none⟩ = some (.int .i64 s.mcr) ∧ W.cell? ⟨w.heap.size, 3, none⟩ = some (.int .i64 s.scr) ∧
    W.cell? ⟨w.heap.size, 4, none⟩ = some (.int .i64 s.dll) ∧ W.cell? ⟨w.heap.size, 5, none⟩ = some (.int .i64 s.dlm) ∧ W.cell? ⟨w.heap.size, 6, none⟩ = some (.bool s.fifo) ∧ W.cell? ⟨w.heap.size, 7, none⟩ = some (.bool s.lost) ∧ W.cell? ⟨w.heap.size, 8, none⟩ = some (.bool s.empty) ∧
    W.cell? ⟨w.heap.size, 9, none⟩ = some iv ∧ W.cell? ⟨w.heap.size, 10, none⟩ = some ov :=
  ⟨h.x.cell 0, h.x.cell 1, h.x.cell 2, h.x.cell 3, h.x.cell 4, h.x.cell 5, h.x.cell 6, h.x.cell 7, h.x.cell 8, h.x.cell 9, h.x.cell 10⟩
/-- A cell of the parameter is stored. -/
theorem XuAt.upd (h : XuAt w W s t iv ov jv qv) {i : Nat} {v : Value} (e : (xuV s iv ov).setIfInBounds i v = xuV u kv lv) : XuAt w (W.setCell ⟨w.heap.size, i, none⟩ v) u t kv lv jv qv :=
  ⟨by unfold CsAt; rw [heap_setCell_same W _ i _ X17 _ h.x, e], h.r.far (by omega) _, h.bel.setCell (p := ⟨w.heap.size, i, none⟩) (Nat.le_refl _) _⟩
/-- The whole parameter is stored. -/
theorem XuAt.all (h : XuAt w W s t iv ov jv qv) (u : Ut.S) (kv lv : Value) : XuAt w (W.setRow w.heap.size (xuV u kv lv)) u t kv lv jv qv :=
  ⟨h.x.row _, h.r.rowFar (by omega) _, below_setRow h.bel (Nat.le_refl _) _⟩
theorem XuAt.res (h : XuAt w W s t iv ov jv qv) (u : Ut.S) (kv lv : Value) : XuAt w (W.setRow (w.heap.size + 1) (xuV u kv lv)) s u iv ov kv lv :=
  ⟨h.x.rowFar (by omega) _, h.r.row _, below_setRow h.bel (by omega) _⟩
end
theorem results_cbU {F : Func} {x y : Tmp} (ty : TypeId) (hF : F.results = #[.cell x ty, .tmp y]) (tmps : Array Value) (w : World) (b : Nat) (cs : Array Value) (r : Value) (h2 : tmps.getD x undef = .pointer (some ⟨b, 0, none⟩)) (h3 : tmps.getD y undef = r)
    (hl : (loadVar ty ⟨b, 0, none⟩).run Tryz.prog w = .ok (.agg cs) w) : (results F tmps).run Tryz.prog w = .ok (.tuple #[.agg cs, r]) w := by
  have h2' : tmps[x]?.getD undef = .pointer (some ⟨b, 0, none⟩) := by simpa using h2
  have h3' : tmps[y]?.getD undef = r := by simpa using h3
  simp [results, hF, h2', h3', asAddr, hl]
theorem results_cbbU {F : Func} {x y z : Tmp} (ty : TypeId) (hF : F.results = #[.cell x ty, .tmp y, .tmp z]) (tmps : Array Value) (w : World) (b : Nat) (cs : Array Value) (r u : Value) (h2 : tmps.getD x undef = .pointer (some ⟨b, 0, none⟩)) (h3 : tmps.getD y undef = r) (h4 : tmps.getD z undef = u)
    (hl : (loadVar ty ⟨b, 0, none⟩).run Tryz.prog w = .ok (.agg cs) w) : (results F tmps).run Tryz.prog w = .ok (.tuple #[.agg cs, r, u]) w := by
  have h2' : tmps[x]?.getD undef = .pointer (some ⟨b, 0, none⟩) := by simpa using h2
  have h3' : tmps[y]?.getD undef = r := by simpa using h3
  have h4' : tmps[z]?.getD undef = u := by simpa using h4
  simp [results, hF, h2', h3', h4', asAddr, hl]
theorem XuAt.ret {w W : World} {s t : Ut.S} {iv ov jv qv : Value} (h : XuAt w W s t iv ov jv qv) : (loadVar X17 ⟨w.heap.size + 1, 0, none⟩).run Tryz.prog W = .ok (.agg (xuV t jv qv)) W :=
  run_loadVar_row _ _ X17 X17 _ (0, 0) _ h.r Tryz.underlying51 rfl info_X17
namespace Ut
def bti (x : Int) (i : Nat) : Int := x / 2 ^ i % 2
theorem bti_0 {x : Int} {i : Nat} (h : bt x i = true) : bti x i = 1 := by unfold bt at h; simpa [bti] using h
theorem bti_n {x : Int} {i : Nat} (h : bt x i = false) : bti x i = 0 := by
  unfold bt at h
  simp only [decide_eq_false_iff_not] at h
  unfold bti
  omega
theorem bti_b (x : Int) (i : Nat) : (bti x i == 1) = bt x i := by
  unfold bti bt
  rw [Bool.eq_iff_iff]
  simp
theorem bti_z (x : Int) (i : Nat) : (bti x i == 0) = !bt x i := by
  unfold bti bt
  rw [Bool.eq_iff_iff]
  simp
  omega
theorem div_next (x : Int) (k : Nat) : x / 2 ^ k / 2 = x / 2 ^ (k + 1) := by
  rw [Int.pow_succ, ← Int.ediv_ediv_of_nonneg (Int.pow_nonneg (by omega))]
theorem div_rng {x : Int} (h0 : 0 ≤ x) (h1 : x ≤ 9223372036854775807) (k : Nat) : 0 ≤ x / 2 ^ k ∧ x / 2 ^ k ≤ 9223372036854775807 := by
  have hp : (0 : Int) < 2 ^ k := Int.pow_pos (by omega)
  exact ⟨Int.ediv_nonneg h0 (by omega), Int.le_trans (Int.ediv_le_self _ h0) h1⟩
end Ut
set_option maxHeartbeats 4000000 in
theorem rbit_c (x : Int) (i : Nat) (h0 : 0 ≤ x) (h1 : x ≤ 9223372036854775807) (hi : i < 64) (w : World) : Calls Tryz.prog 71 #[.int .i64 x, .int .i64 i] w fun e w' => e = .returned (.int .i64 (Ut.bti x i)) ∧ w' = w := by
  go_enter Tryz.func71, Tryz.ntmps71
  go_wp2_with fail
  go_loopw [0, 5] (fun n k wr => ∃ j : Nat, j ≤ i ∧ k = .int .i64 j ∧ n = .int .i64 (x / 2 ^ j) ∧ wr = w) (fun _ k _ => i - (intOf k).toNat)
  case atStart => exact ⟨0, by omega, rfl, by simp, rfl⟩
  case round =>
    obtain ⟨j, hj, rfl, rfl, rfl⟩ := hrel
    have HN := Lib.hid (Ut.div_next x j)
    have hr := Ut.div_rng h0 h1 j
    have HE := Lib.hid (show Ut.bti x j = x / 2 ^ j % 2 from rfl)
    generalize x / 2 ^ j = y at *
    by_cases hlt : j < i
    · have e0 : decide ((j : Int) < (i : Int)) = true := by simp; omega
      clear h0 h1
      go_wp2_with fail
      go_roundw
      case rel => exact ⟨j + 1, by omega, by go_num, by rw [← HN.out], trivial⟩
      case measure => simp [intOf]; omega
    · have e0 : decide ((j : Int) < (i : Int)) = false := by simp; omega
      obtain rfl : j = i := by omega
      clear h0 h1
      go_wp2_with fail
      go_ret
      exact ⟨by rw [HE.out]; rfl, rfl⟩
set_option maxHeartbeats 4000000 in
theorem rbytes_c (u v : Value) (xs ys : List Int) (w : World) (hu : VwB w u xs) (hv : VwB w v ys) (hl : xs.length ≤ 1000000) :
    Calls Tryz.prog 44 #[u, v] w fun e w' => e = .returned (.bool (eqB xs ys)) ∧ Below w.heap.size w w' := by
  obtain ⟨p, cp, rfl, hu⟩ := hu
  obtain ⟨q, cq, rfl, hv⟩ := hv
  by_cases hn : xs.length = ys.length
  · have HP := Lib.hid hu
    have HQ := Lib.hid hv
    have HN := Lib.hid hn
    rw [← hn] at HQ ⊢
    clear hu hv hn
    go_enter Tryz.func44, Tryz.ntmps44
    go_wp2_with fail
    go_loopw [5] (fun i wr => ∃ k : Nat, k ≤ xs.length ∧ i = .int .i64 k ∧ (∀ j, j < k → xs.getD j 0 = ys.getD j 0) ∧ Below w.heap.size w wr) (fun i _ => xs.length - (intOf i).toNat)
    case atStart => exact ⟨0, Nat.zero_le _, rfl, fun j hj => by omega, Below.refl _ _⟩
    case round =>
      obtain ⟨k, hk, rfl, hd, hb⟩ := hrel
      have HD := Lib.hid hd
      have HB := Lib.hid hb
      clear hd hb
      by_cases hlt : k < xs.length
      · have hne : ¬ xs = [] := fun e => by rw [e] at hlt; simp at hlt
        have hne2 : ¬ ys = [] := fun e => by have h := HN.out; have h2 := congrArg List.length e; simp only [List.length_nil] at h2; omega
        obtain ⟨b, o, rfl, hbl, hc⟩ := HP.out.resolve_left hne
        obtain ⟨b2, o2, rfl, hbl2, hc2⟩ := HQ.out.resolve_left hne2
        have c1 := (HB.out.cell (p := ⟨b, o + k, none⟩) hbl).trans (hc k hlt)
        have c2 := (HB.out.cell (p := ⟨b2, o2 + k, none⟩) hbl2).trans (hc2 k hlt)
        have g1 : (k : Int) < (xs.length : Int) := by omega
        have HD2 := Lib.hid (fun (e : xs.getD k 0 = ys.getD k 0) => show ∀ j, j < k + 1 → xs.getD j 0 = ys.getD j 0 from fun j hj => by
          by_cases ej : j = k
          · subst ej; exact e
          · exact HD.out j (by omega))
        clear hc hc2 hne hne2
        by_cases he : xs.getD k 0 = ys.getD k 0
        · have HD3 := Lib.hid (HD2.out he)
          have ge : (xs.getD k 0 != ys.getD k 0) = false := by simp; exact he
          generalize xs.getD k 0 = x at *
          generalize ys.getD k 0 = y at *
          clear HD HD2 he
          go_wp2_with fail
          go_quiet (fail)
          have HB3 := Lib.hid (below_dU HB.out nq)
          go_wp2_with fail
          go_roundw
          case rel => exact ⟨k + 1, by omega, by go_num, HD3.out, HB3.out⟩
          case measure => simp [intOf]; omega
        · have HE := Lib.hid (eqB_no he)
          have ge : (xs.getD k 0 != ys.getD k 0) = true := by simp; exact he
          generalize xs.getD k 0 = x at *
          generalize ys.getD k 0 = y at *
          clear HD HD2 he
          go_wp2_with fail
          go_quiet (fail)
          have HB3 := Lib.hid (below_dU HB.out nq)
          go_wp2_with fail
          go_ret
          exact ⟨by rw [HE.out]; rfl, HB3.out⟩
      · have HE := Lib.hid (eqB_yes HN.out (fun i hi => HD.out i (by omega)))
        have g1 : decide ((k : Int) < (xs.length : Int)) = false := by simp; omega
        clear HD
        go_wp2_with fail
        go_ret
        exact ⟨by rw [HE.out]; rfl, HB.out⟩
  · have HE := Lib.hid (eqB_len hn)
    rw [HE.out]
    have g0 : ((xs.length : Int) != (ys.length : Int)) = true := by simp; omega
    clear hu hv hn
    go_enter Tryz.func44, Tryz.ntmps44
    go_wp2_with fail
    go_ret
    exact ⟨rfl, Below.refl _ _⟩
/-- What a call of the reference leaves: a value, in new memory. -/
structure XuQ (G : Nat → Prop) (w W : World) (s : Ut.S) (iv ov : Value) : Prop where
  i : VwG G W iv s.q
  o : VwG G W ov s.out
  bel : Below w.heap.size w W
theorem wrap_u8 {x : Int} (h : Ut.isB x) : IntKind.u8.wrap x = x := by rw [IntKind.wrap_u8]; have := h.1; have := h.2; omega

set_option maxHeartbeats 8000000 in
theorem rcome_c (G : Nat → Prop) (s : Ut.S) (iv ov : Value) (x : Int) (hx : Ut.isB x) (w : World) (hG : ∀ k, G k → k < w.heap.size) (hi : VwG G w iv s.q) (ho : VwG G w ov s.out) (ok : Ut.Ok s) :
    Calls Tryz.prog 73 #[.agg (xuV s iv ov), .int .i64 x] w fun e w' => ∃ iv' ov', e = .returned (.tuple #[.agg (xuV (Ut.comeS s x) iv' ov'), .bool (Ut.comeB s)]) ∧ XuQ G w w' (Ut.comeS s x) iv' ov' := by
  have HX := Lib.hid (XuAt.new w s iv ov)
  have hz := zero_x17
  have hqn := ok.qn
  obtain ⟨p, cap, rfl, hV, hpn⟩ := hi.form
  have HI := Lib.hid hi
  have HO := Lib.hid ho
  have HV := Lib.hid hV
  have HG := Lib.hid hG
  have e8 := wrap_u8 hx
  clear hi ho hV
  by_cases hfull : Ut.room s ≤ s.q.length
  · have HS := Lib.hid (show Ut.comeS s x = { s with lost := true } by unfold Ut.comeS; rw [if_pos hfull])
    have HB := Lib.hid (show Ut.comeB s = false by unfold Ut.comeB; simp; omega)
    rw [HB.out, HS.out]
    obtain hf | hf : s.fifo = false ∨ s.fifo = true := by cases s.fifo <;> simp
    · skip
      have hr : Ut.room s = 1 := by unfold Ut.room; rw [hf]; rfl
      rw [hr] at hfull
      have e0 : decide ((s.q.length : Int) ≥ 1) = true := by simp only [decide_eq_true_eq]; omega
      have e1 : decide (s.q.length ≥ 1) = true := by simp only [decide_eq_true_eq]; omega
      clear hfull hr
      go_enter Tryz.func73, Tryz.ntmps73
      go_upto_region 1 with fail
      generalize (w.alloc (Obj.cells (xuV s (.slice p s.q.length cap) ov) X17)).alloc (Obj.cells (xuV Ut.zero (.slice none 0 0) (.slice none 0 0)) X17) = w1 at *
      obtain ⟨-, -, -, -, -, -, c6, c7, -, c9, -⟩ := HX.out.cells
      rw [hf] at c6
      have f7 := HX.out.x.frozen 7
      have f9 := HX.out.x.frozen 9
      have HX2 := Lib.hid (HX.out.upd (i := 7) (v := .bool true) (u := { s with lost := true }) (kv := .slice p s.q.length cap) (lv := ov) rfl)
      have HX3 := Lib.hid (HX2.out.res { s with lost := true } (.slice p s.q.length cap) ov)
      clear HX hf
      go_upto_region 6 with fail
      generalize w1.setCell ⟨w.heap.size, 7, none⟩ (.bool true) = w2 at *
      clear c6 c7 c9 f7 f9
      go_wp2_with (first | (refine wpList_load_row rfl X17 _ rfl w.heap.size rfl X17 _ (0, 0) _ HX2.out.x Tryz.underlying51 rfl info_X17 ?_) | (refine wpList_store_row rfl X17 _ _ rfl (w.heap.size + 1) (xuV { s with lost := true } (.slice p s.q.length cap) ov) rfl rfl X17 _ HX2.out.r info_X17 rfl (xuV_one _ rfl HO.out.one) ?_))
      exact bodyPost_ret (results_cbU X17 Tryz.results73 _ _ (w.heap.size + 1) _ _ rfl rfl HX3.out.ret) rfl ⟨_, _, rfl, ⟨HI.out.low HX3.out.bel, HO.out.low HX3.out.bel, HX3.out.bel⟩⟩
    · skip
      have hr : Ut.room s = 16 := by unfold Ut.room; rw [hf]; rfl
      rw [hr] at hfull
      have e0 : decide ((s.q.length : Int) ≥ 16) = true := by simp only [decide_eq_true_eq]; omega
      have e1 : decide (s.q.length ≥ 16) = true := by simp only [decide_eq_true_eq]; omega
      clear hfull hr
      go_enter Tryz.func73, Tryz.ntmps73
      go_upto_region 1 with fail
      generalize (w.alloc (Obj.cells (xuV s (.slice p s.q.length cap) ov) X17)).alloc (Obj.cells (xuV Ut.zero (.slice none 0 0) (.slice none 0 0)) X17) = w1 at *
      obtain ⟨-, -, -, -, -, -, c6, c7, -, c9, -⟩ := HX.out.cells
      rw [hf] at c6
      have f7 := HX.out.x.frozen 7
      have f9 := HX.out.x.frozen 9
      have HX2 := Lib.hid (HX.out.upd (i := 7) (v := .bool true) (u := { s with lost := true }) (kv := .slice p s.q.length cap) (lv := ov) rfl)
      have HX3 := Lib.hid (HX2.out.res { s with lost := true } (.slice p s.q.length cap) ov)
      clear HX hf
      go_upto_region 6 with fail
      generalize w1.setCell ⟨w.heap.size, 7, none⟩ (.bool true) = w2 at *
      clear c6 c7 c9 f7 f9
      go_wp2_with (first | (refine wpList_load_row rfl X17 _ rfl w.heap.size rfl X17 _ (0, 0) _ HX2.out.x Tryz.underlying51 rfl info_X17 ?_) | (refine wpList_store_row rfl X17 _ _ rfl (w.heap.size + 1) (xuV { s with lost := true } (.slice p s.q.length cap) ov) rfl rfl X17 _ HX2.out.r info_X17 rfl (xuV_one _ rfl HO.out.one) ?_))
      exact bodyPost_ret (results_cbU X17 Tryz.results73 _ _ (w.heap.size + 1) _ _ rfl rfl HX3.out.ret) rfl ⟨_, _, rfl, ⟨HI.out.low HX3.out.bel, HO.out.low HX3.out.bel, HX3.out.bel⟩⟩
  · have HS := Lib.hid (show Ut.comeS s x = { s with q := s.q ++ [x] } by unfold Ut.comeS; rw [if_neg hfull])
    have HB := Lib.hid (show Ut.comeB s = true by unfold Ut.comeB; simp; omega)
    rw [HB.out, HS.out]
    obtain hf | hf : s.fifo = false ∨ s.fifo = true := by cases s.fifo <;> simp
    · skip
      have hr : Ut.room s = 1 := by unfold Ut.room; rw [hf]; rfl
      rw [hr] at hfull
      have e0 : decide ((s.q.length : Int) ≥ 1) = false := by simp only [decide_eq_false_iff_not]; omega
      have e1 : decide (s.q.length ≥ 1) = false := by simp only [decide_eq_false_iff_not]; omega
      clear hfull hr
      go_enter Tryz.func73, Tryz.ntmps73
      go_upto_region 1 with fail
      generalize (w.alloc (Obj.cells (xuV s (.slice p s.q.length cap) ov) X17)).alloc (Obj.cells (xuV Ut.zero (.slice none 0 0) (.slice none 0 0)) X17) = w1 at *
      obtain ⟨-, -, -, -, -, -, c6, c7, -, c9, -⟩ := HX.out.cells
      rw [hf] at c6
      have f7 := HX.out.x.frozen 7
      have f9 := HX.out.x.frozen 9
      clear hf
      have hb1 := HX.out.bel
      have hE : (w1.alloc (.cells #[] U8)).ownsRow w1.heap.size U8 1 (.slice (some ⟨w1.heap.size, 0, none⟩) 0 0) 0 [] := ⟨rfl, .inr ⟨w1.heap.size, 0, #[], rfl, Nat.le_refl _, CsAt.new w1 U8 #[], Nat.le_refl _, Nat.zero_le _, rfl, rfl⟩⟩
      have HE := Lib.hid hE
      have HB2 := Lib.hid ((Below.refl w1.heap.size w1).alloc (Nat.le_refl _) (.cells #[] U8))
      have HV2 := Lib.hid ((HV.out.low hb1).low HB2.out)
      have HL := Lib.hid (show (u8V s.q).length = s.q.length * 1 by rw [u8V_len]; omega)
      have c9b := (HB2.out.cell (p := ⟨w.heap.size, 9, none⟩) HX.out.x.lt).trans c9
      clear hE
      go_wp2_with (at_builtin; refine wpList_cat rfl _ _ U8S rfl w1.heap.size U8 _ 1 1 Tryz.underlying49 info_u8 rfl (by omega) (by omega) _ 0 [] rfl HE.out _ s.q.length cap (u8V s.q) rfl HV2.out HL.out (u8V_one s.q) (by omega) HB2.out.size ?_)
      intro v2 w2 ho2 hb2
      have HO2 := Lib.hid ho2
      have HB3 := Lib.hid (HB2.out.trans hb2)
      clear ho2 hb2 c9b
      go_wp2_with (at_builtin; refine wpList_push rfl _ _ U8S rfl w1.heap.size U8 _ 1 1 Tryz.underlying49 info_u8 rfl (by omega) (by omega) _ s.q.length _ rfl HO2.out #[.int .u8 x] rfl (one_u8 x) _ rfl rfl (by omega) HB3.out.size ?_)
      intro v3 w3 ho3 hb3
      have hbb := HB3.out.trans hb3
      have hX3 := HX.out.low hbb
      have ho4 : w3.ownsRow w1.heap.size U8 1 v3 (s.q ++ [x]).length (u8V (s.q ++ [x])) := by simpa [u8V] using ho3
      have hvg : VwG G w3 v3 (s.q ++ [x]) := own_vwG ho4 (fun k hk => Nat.lt_of_lt_of_le (HG.out k hk) hb1.size)
      have j9 := hX3.x.cell 9
      have g9 := hX3.x.frozen 9
      simp only [xuV, List.getElem?_toArray, List.getElem?_cons_succ, List.getElem?_cons_zero] at j9
      have HX4 := Lib.hid (hX3.upd (i := 9) (v := v3) (u := { s with q := s.q ++ [x] }) (kv := v3) (lv := ov) rfl)
      have HX5 := Lib.hid (HX4.out.res { s with q := s.q ++ [x] } v3 ov)
      have HV5 := Lib.hid (hvg.low ((Below.refl w3.heap.size w3).mono (Nat.le_refl _)))
      obtain ⟨p3, cap3, hv3, -⟩ := own_form ho3
      subst hv3
      have hne := (HX.out.r).lt
      have hvg2 : VwG G ((w3.setCell ⟨w.heap.size, 9, none⟩ (.slice p3 (s.q.length + 1) cap3)).setRow (w.heap.size + 1) (xuV { s with q := s.q ++ [x] } (.slice p3 (s.q.length + 1) cap3) ov)) (.slice p3 (s.q.length + 1) cap3) (s.q ++ [x]) := by
        have hc : Chg (fun k => k = w.heap.size ∨ k = w.heap.size + 1) w3 ((w3.setCell ⟨w.heap.size, 9, none⟩ (.slice p3 (s.q.length + 1) cap3)).setRow (w.heap.size + 1) (xuV { s with q := s.q ++ [x] } (.slice p3 (s.q.length + 1) cap3) ov)) := (Chg.of_cell (.inl rfl) 9 _).trans (Chg.of_row (.inr rfl) _)
        exact own_vwG (hc.own ho4 (fun k hk => by have := (ho4.lt k hk).1; intro e; rcases e with e | e <;> omega)) (fun k hk => Nat.lt_of_lt_of_le (HG.out k hk) hb1.size)
      have HVF := Lib.hid hvg2
      clear ho3 hb3 hbb hX3 ho4 hvg hvg2 hne HB2 HB3 HE HO2 HV2 c6 c7 c9 f7 f9 hb1 HX HV5 HL
      go_upto_region 8 with fail
      generalize w3.setCell ⟨w.heap.size, 9, none⟩ (.slice p3 (s.q.length + 1) cap3) = w4 at *
      go_wp2_with (first | (refine wpList_load_row rfl X17 _ rfl w.heap.size rfl X17 _ (0, 0) _ HX4.out.x Tryz.underlying51 rfl info_X17 ?_) | (refine wpList_store_row rfl X17 _ _ rfl (w.heap.size + 1) (xuV { s with q := s.q ++ [x] } (.slice p3 (s.q.length + 1) cap3) ov) rfl rfl X17 _ HX4.out.r info_X17 rfl (xuV_one _ rfl HO.out.one) ?_))
      exact bodyPost_ret (results_cbU X17 Tryz.results73 _ _ (w.heap.size + 1) _ _ rfl rfl HX5.out.ret) rfl ⟨_, _, rfl, ⟨HVF.out, HO.out.low HX5.out.bel, HX5.out.bel⟩⟩
    · skip
      have hr : Ut.room s = 16 := by unfold Ut.room; rw [hf]; rfl
      rw [hr] at hfull
      have e0 : decide ((s.q.length : Int) ≥ 16) = false := by simp only [decide_eq_false_iff_not]; omega
      have e1 : decide (s.q.length ≥ 16) = false := by simp only [decide_eq_false_iff_not]; omega
      clear hfull hr
      go_enter Tryz.func73, Tryz.ntmps73
      go_upto_region 1 with fail
      generalize (w.alloc (Obj.cells (xuV s (.slice p s.q.length cap) ov) X17)).alloc (Obj.cells (xuV Ut.zero (.slice none 0 0) (.slice none 0 0)) X17) = w1 at *
      obtain ⟨-, -, -, -, -, -, c6, c7, -, c9, -⟩ := HX.out.cells
      rw [hf] at c6
      have f7 := HX.out.x.frozen 7
      have f9 := HX.out.x.frozen 9
      clear hf
      have hb1 := HX.out.bel
      have hE : (w1.alloc (.cells #[] U8)).ownsRow w1.heap.size U8 1 (.slice (some ⟨w1.heap.size, 0, none⟩) 0 0) 0 [] := ⟨rfl, .inr ⟨w1.heap.size, 0, #[], rfl, Nat.le_refl _, CsAt.new w1 U8 #[], Nat.le_refl _, Nat.zero_le _, rfl, rfl⟩⟩
      have HE := Lib.hid hE
      have HB2 := Lib.hid ((Below.refl w1.heap.size w1).alloc (Nat.le_refl _) (.cells #[] U8))
      have HV2 := Lib.hid ((HV.out.low hb1).low HB2.out)
      have HL := Lib.hid (show (u8V s.q).length = s.q.length * 1 by rw [u8V_len]; omega)
      have c9b := (HB2.out.cell (p := ⟨w.heap.size, 9, none⟩) HX.out.x.lt).trans c9
      clear hE
      go_wp2_with (at_builtin; refine wpList_cat rfl _ _ U8S rfl w1.heap.size U8 _ 1 1 Tryz.underlying49 info_u8 rfl (by omega) (by omega) _ 0 [] rfl HE.out _ s.q.length cap (u8V s.q) rfl HV2.out HL.out (u8V_one s.q) (by omega) HB2.out.size ?_)
      intro v2 w2 ho2 hb2
      have HO2 := Lib.hid ho2
      have HB3 := Lib.hid (HB2.out.trans hb2)
      clear ho2 hb2 c9b
      go_wp2_with (at_builtin; refine wpList_push rfl _ _ U8S rfl w1.heap.size U8 _ 1 1 Tryz.underlying49 info_u8 rfl (by omega) (by omega) _ s.q.length _ rfl HO2.out #[.int .u8 x] rfl (one_u8 x) _ rfl rfl (by omega) HB3.out.size ?_)
      intro v3 w3 ho3 hb3
      have hbb := HB3.out.trans hb3
      have hX3 := HX.out.low hbb
      have ho4 : w3.ownsRow w1.heap.size U8 1 v3 (s.q ++ [x]).length (u8V (s.q ++ [x])) := by simpa [u8V] using ho3
      have hvg : VwG G w3 v3 (s.q ++ [x]) := own_vwG ho4 (fun k hk => Nat.lt_of_lt_of_le (HG.out k hk) hb1.size)
      have j9 := hX3.x.cell 9
      have g9 := hX3.x.frozen 9
      simp only [xuV, List.getElem?_toArray, List.getElem?_cons_succ, List.getElem?_cons_zero] at j9
      have HX4 := Lib.hid (hX3.upd (i := 9) (v := v3) (u := { s with q := s.q ++ [x] }) (kv := v3) (lv := ov) rfl)
      have HX5 := Lib.hid (HX4.out.res { s with q := s.q ++ [x] } v3 ov)
      have HV5 := Lib.hid (hvg.low ((Below.refl w3.heap.size w3).mono (Nat.le_refl _)))
      obtain ⟨p3, cap3, hv3, -⟩ := own_form ho3
      subst hv3
      have hne := (HX.out.r).lt
      have hvg2 : VwG G ((w3.setCell ⟨w.heap.size, 9, none⟩ (.slice p3 (s.q.length + 1) cap3)).setRow (w.heap.size + 1) (xuV { s with q := s.q ++ [x] } (.slice p3 (s.q.length + 1) cap3) ov)) (.slice p3 (s.q.length + 1) cap3) (s.q ++ [x]) := by
        have hc : Chg (fun k => k = w.heap.size ∨ k = w.heap.size + 1) w3 ((w3.setCell ⟨w.heap.size, 9, none⟩ (.slice p3 (s.q.length + 1) cap3)).setRow (w.heap.size + 1) (xuV { s with q := s.q ++ [x] } (.slice p3 (s.q.length + 1) cap3) ov)) := (Chg.of_cell (.inl rfl) 9 _).trans (Chg.of_row (.inr rfl) _)
        exact own_vwG (hc.own ho4 (fun k hk => by have := (ho4.lt k hk).1; intro e; rcases e with e | e <;> omega)) (fun k hk => Nat.lt_of_lt_of_le (HG.out k hk) hb1.size)
      have HVF := Lib.hid hvg2
      clear ho3 hb3 hbb hX3 ho4 hvg hvg2 hne HB2 HB3 HE HO2 HV2 c6 c7 c9 f7 f9 hb1 HX HV5 HL
      go_upto_region 8 with fail
      generalize w3.setCell ⟨w.heap.size, 9, none⟩ (.slice p3 (s.q.length + 1) cap3) = w4 at *
      go_wp2_with (first | (refine wpList_load_row rfl X17 _ rfl w.heap.size rfl X17 _ (0, 0) _ HX4.out.x Tryz.underlying51 rfl info_X17 ?_) | (refine wpList_store_row rfl X17 _ _ rfl (w.heap.size + 1) (xuV { s with q := s.q ++ [x] } (.slice p3 (s.q.length + 1) cap3) ov) rfl rfl X17 _ HX4.out.r info_X17 rfl (xuV_one _ rfl HO.out.one) ?_))
      exact bodyPost_ret (results_cbU X17 Tryz.results73 _ _ (w.heap.size + 1) _ _ rfl rfl HX5.out.ret) rfl ⟨_, _, rfl, ⟨HVF.out, HO.out.low HX5.out.bel, HX5.out.bel⟩⟩
end Go.Proofs.YtfjdalepaacmgaaGreat
set_option maxRecDepth 20000
namespace Go.Proofs.YtfjdalepaacmgaaGreat
open Go.ChangeShapes Go.WideShapes Go.ChangeAt Go.RowKit

set_option maxHeartbeats 8000000 in
theorem rcause_walk (n cap : Nat) (p : Option Addr) (s : Ut.S) (ov : Value) (a2 lo a0 qq a1 em : Bool) (w : World) (i0 : 0 ≤ s.ier) (i1 : s.ier < 16) (e2 : (Ut.bti s.ier 2 == 1) = a2) (e0 : (Ut.bti s.ier 0 == 1) = a0) (e1 : (Ut.bti s.ier 1 == 1) = a1)
    (eq : decide (0 < n) = qq) (hl : s.lost = lo) (he : s.empty = em) :
    Calls Tryz.prog 42 #[.agg (xuV s (.slice p n cap) ov)] w fun e w' => e = .returned (.int .i64 (whyV a2 lo a0 qq a1 em)) ∧ Below w.heap.size w w' := by
  have HB := Lib.hid ((Below.refl w.heap.size w).alloc (Nat.le_refl _) (.cells (xuV s (.slice p n cap) ov) X17))
  have HR := Lib.hid (CsAt.new w X17 (xuV s (.slice p n cap) ov))
  have H2 := Lib.hid (rbit_c s.ier 2 i0 (by omega) (by omega))
  have H0 := Lib.hid (rbit_c s.ier 0 i0 (by omega) (by omega))
  have H1 := Lib.hid (rbit_c s.ier 1 i0 (by omega) (by omega))
  have c0 : (w.alloc (.cells (xuV s (.slice p n cap) ov) X17)).cell? ⟨w.heap.size, 0, none⟩ = some (.int .i64 s.ier) := HR.out.cell 0
  have c7 : (w.alloc (.cells (xuV s (.slice p n cap) ov) X17)).cell? ⟨w.heap.size, 7, none⟩ = some (.bool s.lost) := HR.out.cell 7
  have c8 : (w.alloc (.cells (xuV s (.slice p n cap) ov) X17)).cell? ⟨w.heap.size, 8, none⟩ = some (.bool s.empty) := HR.out.cell 8
  have c9 : (w.alloc (.cells (xuV s (.slice p n cap) ov) X17)).cell? ⟨w.heap.size, 9, none⟩ = some (.slice p n cap) := HR.out.cell 9
  rw [hl] at c7
  rw [he] at c8
  clear hl he i0 i1
  generalize Ut.bti s.ier 2 = b2 at *
  generalize Ut.bti s.ier 0 = b0 at *
  generalize Ut.bti s.ier 1 = b1 at *
  generalize s.ier = ier at *
  cases a2 with
  | false =>
    cases a0 with
    | false =>
      cases a1 with
      | false =>
        go_enter Tryz.func42, Tryz.ntmps42
        go_upto_region 1 with fail
        generalize w.alloc (.cells (xuV s (.slice p n cap) ov) X17) = w1 at *
        go_wp2_with fail
        refine (H2.out _).mono ?_
        rintro e w2 ⟨rfl, rfl⟩
        go_wp2_with fail
        refine (H0.out _).mono ?_
        rintro e w2 ⟨rfl, rfl⟩
        go_wp2_with fail
        refine (H1.out _).mono ?_
        rintro e w2 ⟨rfl, rfl⟩
        go_wp2_with fail
        go_ret
        exact ⟨rfl, HB.out⟩
      | true =>
        cases em with
        | false =>
          go_enter Tryz.func42, Tryz.ntmps42
          go_upto_region 1 with fail
          generalize w.alloc (.cells (xuV s (.slice p n cap) ov) X17) = w1 at *
          go_wp2_with fail
          refine (H2.out _).mono ?_
          rintro e w2 ⟨rfl, rfl⟩
          go_wp2_with fail
          refine (H0.out _).mono ?_
          rintro e w2 ⟨rfl, rfl⟩
          go_wp2_with fail
          refine (H1.out _).mono ?_
          rintro e w2 ⟨rfl, rfl⟩
          go_wp2_with fail
          go_ret
          exact ⟨rfl, HB.out⟩
        | true =>
          go_enter Tryz.func42, Tryz.ntmps42
          go_upto_region 1 with fail
          generalize w.alloc (.cells (xuV s (.slice p n cap) ov) X17) = w1 at *
          go_wp2_with fail
          refine (H2.out _).mono ?_
          rintro e w2 ⟨rfl, rfl⟩
          go_wp2_with fail
          refine (H0.out _).mono ?_
          rintro e w2 ⟨rfl, rfl⟩
          go_wp2_with fail
          refine (H1.out _).mono ?_
          rintro e w2 ⟨rfl, rfl⟩
          go_wp2_with fail
          go_ret
          exact ⟨rfl, HB.out⟩
    | true =>
      cases qq with
      | false =>
        cases a1 with
        | false =>
          go_enter Tryz.func42, Tryz.ntmps42
          go_upto_region 1 with fail
          generalize w.alloc (.cells (xuV s (.slice p n cap) ov) X17) = w1 at *
          go_wp2_with fail
          refine (H2.out _).mono ?_
          rintro e w2 ⟨rfl, rfl⟩
          go_wp2_with fail
          refine (H0.out _).mono ?_
          rintro e w2 ⟨rfl, rfl⟩
          go_wp2_with fail
          refine (H1.out _).mono ?_
          rintro e w2 ⟨rfl, rfl⟩
          go_wp2_with fail
          go_ret
          exact ⟨rfl, HB.out⟩
        | true =>
          cases em with
          | false =>
            go_enter Tryz.func42, Tryz.ntmps42
            go_upto_region 1 with fail
            generalize w.alloc (.cells (xuV s (.slice p n cap) ov) X17) = w1 at *
            go_wp2_with fail
            refine (H2.out _).mono ?_
            rintro e w2 ⟨rfl, rfl⟩
            go_wp2_with fail
            refine (H0.out _).mono ?_
            rintro e w2 ⟨rfl, rfl⟩
            go_wp2_with fail
            refine (H1.out _).mono ?_
            rintro e w2 ⟨rfl, rfl⟩
            go_wp2_with fail
            go_ret
            exact ⟨rfl, HB.out⟩
          | true =>
            go_enter Tryz.func42, Tryz.ntmps42
            go_upto_region 1 with fail
            generalize w.alloc (.cells (xuV s (.slice p n cap) ov) X17) = w1 at *
            go_wp2_with fail
            refine (H2.out _).mono ?_
            rintro e w2 ⟨rfl, rfl⟩
            go_wp2_with fail
            refine (H0.out _).mono ?_
            rintro e w2 ⟨rfl, rfl⟩
            go_wp2_with fail
            refine (H1.out _).mono ?_
            rintro e w2 ⟨rfl, rfl⟩
            go_wp2_with fail
            go_ret
            exact ⟨rfl, HB.out⟩
      | true =>
        go_enter Tryz.func42, Tryz.ntmps42
        go_upto_region 1 with fail
        generalize w.alloc (.cells (xuV s (.slice p n cap) ov) X17) = w1 at *
        go_wp2_with fail
        refine (H2.out _).mono ?_
        rintro e w2 ⟨rfl, rfl⟩
        go_wp2_with fail
        refine (H0.out _).mono ?_
        rintro e w2 ⟨rfl, rfl⟩
        go_wp2_with fail
        go_ret
        exact ⟨rfl, HB.out⟩
  | true =>
    cases lo with
    | false =>
      cases a0 with
      | false =>
        cases a1 with
        | false =>
          go_enter Tryz.func42, Tryz.ntmps42
          go_upto_region 1 with fail
          generalize w.alloc (.cells (xuV s (.slice p n cap) ov) X17) = w1 at *
          go_wp2_with fail
          refine (H2.out _).mono ?_
          rintro e w2 ⟨rfl, rfl⟩
          go_wp2_with fail
          refine (H0.out _).mono ?_
          rintro e w2 ⟨rfl, rfl⟩
          go_wp2_with fail
          refine (H1.out _).mono ?_
          rintro e w2 ⟨rfl, rfl⟩
          go_wp2_with fail
          go_ret
          exact ⟨rfl, HB.out⟩
        | true =>
          cases em with
          | false =>
            go_enter Tryz.func42, Tryz.ntmps42
            go_upto_region 1 with fail
            generalize w.alloc (.cells (xuV s (.slice p n cap) ov) X17) = w1 at *
            go_wp2_with fail
            refine (H2.out _).mono ?_
            rintro e w2 ⟨rfl, rfl⟩
            go_wp2_with fail
            refine (H0.out _).mono ?_
            rintro e w2 ⟨rfl, rfl⟩
            go_wp2_with fail
            refine (H1.out _).mono ?_
            rintro e w2 ⟨rfl, rfl⟩
            go_wp2_with fail
            go_ret
            exact ⟨rfl, HB.out⟩
          | true =>
            go_enter Tryz.func42, Tryz.ntmps42
            go_upto_region 1 with fail
            generalize w.alloc (.cells (xuV s (.slice p n cap) ov) X17) = w1 at *
            go_wp2_with fail
            refine (H2.out _).mono ?_
            rintro e w2 ⟨rfl, rfl⟩
            go_wp2_with fail
            refine (H0.out _).mono ?_
            rintro e w2 ⟨rfl, rfl⟩
            go_wp2_with fail
            refine (H1.out _).mono ?_
            rintro e w2 ⟨rfl, rfl⟩
            go_wp2_with fail
            go_ret
            exact ⟨rfl, HB.out⟩
      | true =>
        cases qq with
        | false =>
          cases a1 with
          | false =>
            go_enter Tryz.func42, Tryz.ntmps42
            go_upto_region 1 with fail
            generalize w.alloc (.cells (xuV s (.slice p n cap) ov) X17) = w1 at *
            go_wp2_with fail
            refine (H2.out _).mono ?_
            rintro e w2 ⟨rfl, rfl⟩
            go_wp2_with fail
            refine (H0.out _).mono ?_
            rintro e w2 ⟨rfl, rfl⟩
            go_wp2_with fail
            refine (H1.out _).mono ?_
            rintro e w2 ⟨rfl, rfl⟩
            go_wp2_with fail
            go_ret
            exact ⟨rfl, HB.out⟩
          | true =>
            cases em with
            | false =>
              go_enter Tryz.func42, Tryz.ntmps42
              go_upto_region 1 with fail
              generalize w.alloc (.cells (xuV s (.slice p n cap) ov) X17) = w1 at *
              go_wp2_with fail
              refine (H2.out _).mono ?_
              rintro e w2 ⟨rfl, rfl⟩
              go_wp2_with fail
              refine (H0.out _).mono ?_
              rintro e w2 ⟨rfl, rfl⟩
              go_wp2_with fail
              refine (H1.out _).mono ?_
              rintro e w2 ⟨rfl, rfl⟩
              go_wp2_with fail
              go_ret
              exact ⟨rfl, HB.out⟩
            | true =>
              go_enter Tryz.func42, Tryz.ntmps42
              go_upto_region 1 with fail
              generalize w.alloc (.cells (xuV s (.slice p n cap) ov) X17) = w1 at *
              go_wp2_with fail
              refine (H2.out _).mono ?_
              rintro e w2 ⟨rfl, rfl⟩
              go_wp2_with fail
              refine (H0.out _).mono ?_
              rintro e w2 ⟨rfl, rfl⟩
              go_wp2_with fail
              refine (H1.out _).mono ?_
              rintro e w2 ⟨rfl, rfl⟩
              go_wp2_with fail
              go_ret
              exact ⟨rfl, HB.out⟩
        | true =>
          go_enter Tryz.func42, Tryz.ntmps42
          go_upto_region 1 with fail
          generalize w.alloc (.cells (xuV s (.slice p n cap) ov) X17) = w1 at *
          go_wp2_with fail
          refine (H2.out _).mono ?_
          rintro e w2 ⟨rfl, rfl⟩
          go_wp2_with fail
          refine (H0.out _).mono ?_
          rintro e w2 ⟨rfl, rfl⟩
          go_wp2_with fail
          go_ret
          exact ⟨rfl, HB.out⟩
    | true =>
      go_enter Tryz.func42, Tryz.ntmps42
      go_upto_region 1 with fail
      generalize w.alloc (.cells (xuV s (.slice p n cap) ov) X17) = w1 at *
      go_wp2_with fail
      refine (H2.out _).mono ?_
      rintro e w2 ⟨rfl, rfl⟩
      go_wp2_with fail
      go_ret
      exact ⟨rfl, HB.out⟩
theorem rcause_c (G : Nat → Prop) (s : Ut.S) (iv ov : Value) (ok : Ut.Ok s) (w : World) (hi : VwG G w iv s.q) :
    Calls Tryz.prog 42 #[.agg (xuV s iv ov)] w fun e w' => e = .returned (.int .i64 (Ut.cause s)) ∧ Below w.heap.size w w' := by
  obtain ⟨p, cap, rfl, -⟩ := hi
  have := rcause_walk s.q.length cap p s ov _ _ _ _ _ _ w ok.ier.1 ok.ier.2 (Ut.bti_b _ 2) (Ut.bti_b _ 0) (Ut.bti_b _ 1) rfl rfl rfl
  rw [show whyV (Ut.bt s.ier 2) s.lost (Ut.bt s.ier 0) (decide (0 < s.q.length)) (Ut.bt s.ier 1) s.empty = Ut.cause s by
    unfold whyV Ut.cause
    have e : (decide (0 < s.q.length) = true) = (s.q ≠ []) := by
      cases s.q <;> simp
    simp only [e]] at this
  exact this
/-- With the call's own two blocks. -/
def G2 (G : Nat → Prop) (w : World) : Nat → Prop := fun k => G k ∨ k = w.heap.size ∨ k = w.heap.size + 1
theorem VwG.g2 {G : Nat → Prop} {w W : World} {v : Value} {xs : List Int} (h : VwG G w v xs) (hb : Below w.heap.size w W) : VwG (G2 G w) W v xs :=
  (h.more (H := G2 G w) (fun k hk => by rcases hk with hk | hk | hk; exact .inl hk; exact .inr (by omega); exact .inr (by omega))).low hb
theorem VwG.of2 {G : Nat → Prop} {w W W' : World} {v : Value} {xs : List Int} (h : VwG (G2 G w) W v xs) (hc : Chg (fun k => k = w.heap.size ∨ k = w.heap.size + 1) W W') : VwG G W' v xs :=
  (h.keep (hc.mono (fun _ hk => .inr hk))).more (fun _ hk => .inl (.inl hk))
theorem lt2 {G : Nat → Prop} {w W : World} (hG : ∀ k, G k → k < w.heap.size) (hb : w.heap.size + 2 ≤ W.heap.size) : ∀ k, G2 G w k → k < W.heap.size := fun k hk => by
  rcases hk with hk | hk | hk
  · have := hG k hk; omega
  · omega
  · omega
theorem XuAt.size2 {w W : World} {s t : Ut.S} {iv ov jv qv : Value} (h : XuAt w W s t iv ov jv qv) : w.heap.size + 2 ≤ W.heap.size := by have := h.r.lt; omega
set_option maxHeartbeats 8000000 in
theorem rinput_c (G : Nat → Prop) (s : Ut.S) (iv ov : Value) (x : Int) (hx : Ut.isB x) (w : World) (hG : ∀ k, G k → k < w.heap.size) (hi : VwG G w iv s.q) (ho : VwG G w ov s.out) (ok : Ut.Ok s) :
    Calls Tryz.prog 40 #[.agg (xuV s iv ov), .int .i64 x] w fun e w' => ∃ iv' ov', e = .returned (.tuple #[.agg (xuV (Ut.inS s x) iv' ov'), .bool (Ut.inB s)]) ∧ XuQ G w w' (Ut.inS s x) iv' ov' := by
  have HX := Lib.hid (XuAt.new w s iv ov)
  have hz := zero_x17
  have HI := Lib.hid hi
  have HO := Lib.hid ho
  have H4 := Lib.hid (rbit_c s.mcr 4 ok.mcr.1 (by have := ok.mcr.2; omega) (by omega))
  have HC := Lib.hid (fun W (hb : w.heap.size + 2 ≤ W.heap.size) (h1 : VwG (G2 G w) W iv s.q) (h2 : VwG (G2 G w) W ov s.out) => rcome_c (G2 G w) s iv ov x hx W (lt2 hG hb) h1 h2 ok)
  have e4 := Ut.bti_b s.mcr 4
  have hlp : Ut.bt s.mcr 4 = Ut.lp s := rfl
  rw [hlp] at e4
  clear hi ho hlp
  generalize Ut.bti s.mcr 4 = b4 at *
  cases hl : Ut.lp s with
  | true =>
    have HS := Lib.hid (show Ut.inB s = false ∧ Ut.inS s x = s by unfold Ut.inB Ut.inS; rw [hl]; exact ⟨rfl, if_pos rfl⟩)
    rw [HS.out.1, HS.out.2]
    rw [hl] at e4
    clear hl HC
    go_enter Tryz.func40, Tryz.ntmps40
    go_upto_region 1 with fail
    generalize (w.alloc (Obj.cells (xuV s iv ov) X17)).alloc (Obj.cells (xuV Ut.zero (.slice none 0 0) (.slice none 0 0)) X17) = w1 at *
    obtain ⟨-, -, c2, -⟩ := HX.out.cells
    go_wp2_with fail
    refine (H4.out _).mono ?_
    rintro e w2 ⟨rfl, rfl⟩
    have HX3 := Lib.hid (HX.out.res s iv ov)
    clear c2
    go_wp2_with (first | (refine wpList_load_row rfl X17 _ rfl w.heap.size rfl X17 _ (0, 0) _ HX.out.x Tryz.underlying51 rfl info_X17 ?_) | (refine wpList_store_row rfl X17 _ _ rfl (w.heap.size + 1) (xuV s iv ov) rfl rfl X17 _ HX.out.r info_X17 rfl (xuV_one _ HI.out.one HO.out.one) ?_))
    exact bodyPost_ret (results_cbU X17 Tryz.results40 _ _ (w.heap.size + 1) _ _ rfl rfl HX3.out.ret) rfl ⟨_, _, rfl, ⟨HI.out.low HX3.out.bel, HO.out.low HX3.out.bel, HX3.out.bel⟩⟩
  | false =>
    have HS := Lib.hid (show Ut.inB s = Ut.comeB s ∧ Ut.inS s x = Ut.comeS s x by unfold Ut.inB Ut.inS; rw [hl]; exact ⟨rfl, if_neg (by simp)⟩)
    rw [HS.out.1, HS.out.2]
    rw [hl] at e4
    clear hl HS
    generalize Ut.comeS s x = t at *
    generalize Ut.comeB s = tb at *
    go_enter Tryz.func40, Tryz.ntmps40
    go_upto_region 1 with fail
    generalize (w.alloc (Obj.cells (xuV s iv ov) X17)).alloc (Obj.cells (xuV Ut.zero (.slice none 0 0) (.slice none 0 0)) X17) = w1 at *
    obtain ⟨-, -, c2, -⟩ := HX.out.cells
    go_wp2_with fail
    refine (H4.out _).mono ?_
    rintro e w2 ⟨rfl, rfl⟩
    clear c2
    go_wp2_with (refine wpList_load_row rfl X17 _ rfl w.heap.size rfl X17 _ (0, 0) _ HX.out.x Tryz.underlying51 rfl info_X17 ?_)
    refine (HC.out w2 HX.out.size2 (HI.out.g2 HX.out.bel) (HO.out.g2 HX.out.bel)).mono ?_
    rintro e w3 ⟨iv3, ov3, rfl, hq3⟩
    have hX3 := HX.out.low hq3.bel
    have HX3 := Lib.hid hX3
    have HX4 := Lib.hid (hX3.res t iv3 ov3)
    have HQ := Lib.hid (show VwG G (w3.setRow (w.heap.size + 1) (xuV t iv3 ov3)) iv3 t.q ∧ VwG G (w3.setRow (w.heap.size + 1) (xuV t iv3 ov3)) ov3 t.out from ⟨hq3.i.of2 (Chg.of_row (.inr rfl) _), hq3.o.of2 (Chg.of_row (.inr rfl) _)⟩)
    have H1 := Lib.hid (And.intro hq3.i.one hq3.o.one)
    clear hX3 hq3 HX HC H4 e4
    go_wp2_with (refine wpList_store_row rfl X17 _ _ rfl (w.heap.size + 1) (xuV t iv3 ov3) rfl rfl X17 _ HX3.out.r info_X17 rfl (xuV_one _ H1.out.1 H1.out.2) ?_)
    exact bodyPost_ret (results_cbU X17 Tryz.results40 _ _ (w.heap.size + 1) _ _ rfl rfl HX4.out.ret) rfl ⟨_, _, rfl, ⟨HQ.out.1, HQ.out.2, HX4.out.bel⟩⟩
end Go.Proofs.YtfjdalepaacmgaaGreat
set_option maxRecDepth 20000
namespace Go.Proofs.YtfjdalepaacmgaaGreat
open Go.ChangeShapes Go.WideShapes Go.ChangeAt Go.RowKit

namespace Ut
theorem bti_2 (m : Int) (i : Nat) : b2i (bt m i) = bti m i := by
  unfold b2i
  cases h : bt m i with
  | true => rw [bti_0 h]; rfl
  | false => rw [bti_n h]; rfl
theorem bti_rng (m : Int) (i : Nat) : 0 ≤ bti m i ∧ bti m i ≤ 1 := by unfold bti; omega
theorem modem_yes (m : Int) (h : bt m 4 = true) : modem m = 16 * bti m 1 + 32 * bti m 0 + 64 * bti m 2 + 128 * bti m 3 := by
  unfold modem
  rw [if_pos h, bti_2, bti_2, bti_2, bti_2]
end Ut
theorem wrapI {x : Int} (h0 : -9223372036854775808 ≤ x) (h1 : x ≤ 9223372036854775807) : IntKind.i64.wrap x = x := by rw [IntKind.wrap_i64]; omega
/-- Behind the first byte. -/
theorem VwG.tail {G : Nat → Prop} {w : World} {b off cap : Nat} {x : Int} {xs : List Int} (h : VwG G w (.slice (some ⟨b, off, none⟩) (xs.length + 1) cap) (x :: xs)) :
    w.cell? ⟨b, off, none⟩ = some (.int .u8 x) ∧ Vw w (some ⟨b, off + 1, none⟩) (u8V xs) ∧ xs.length + 1 ≤ cap := by
  obtain ⟨p, cap', e, hc, h1, h2⟩ := h
  cases e
  have h3 := h2 b off rfl
  refine ⟨by have := h3 0 (by simp); simpa using this, ?_, by simpa using hc⟩
  have hlt : b < w.heap.size := World.block_lt_of_cell? w ⟨b, off + 0, none⟩ (h3 0 (by simp))
  refine .inr ⟨b, off + 1, rfl, hlt, fun j u hj => ?_⟩
  have hl : j < xs.length := by
    have := (List.getElem?_eq_some_iff.1 hj).1
    rwa [u8V_len] at this
  have := h3 (j + 1) (by simp; omega)
  rw [show off + 1 + j = off + (j + 1) by omega, this, ← hj, u8V_at xs j hl]
  rfl

set_option maxHeartbeats 8000000 in
theorem rread_far (G : Nat → Prop) (s : Ut.S) (iv ov : Value) (off : Int) (w : World) (hG : ∀ k, G k → k < w.heap.size) (hi : VwG G w iv s.q) (ho : VwG G w ov s.out) (ok : Ut.Ok s) (hf : 8 ≤ off) :
    Calls Tryz.prog 34 #[.agg (xuV s iv ov), .int .u64 off] w fun e w' => ∃ iv' ov', e = .returned (.tuple #[.agg (xuV (Ut.readS s off) iv' ov'), .int .i64 (Ut.readV s off), .bool (Ut.is off)]) ∧ XuQ G w w' (Ut.readS s off) iv' ov' := by
  have HX := Lib.hid (XuAt.new w s iv ov)
  have hz := zero_x17
  have HI := Lib.hid hi
  have HO := Lib.hid ho
  have HG := Lib.hid hG
  have HOK := Lib.hid ok
  have H7 := Lib.hid (rbit_c s.lcr 7 ok.lcr.1 (by have := ok.lcr.2; omega) (by omega))
  have e7 := Ut.bti_b s.lcr 7
  have hhi : Ut.bt s.lcr 7 = Ut.hi s := rfl
  rw [hhi] at e7
  clear hi ho hhi
  generalize Ut.bti s.lcr 7 = b7 at *
  rw [(Ut.read_far (s := s) hf).1, (Ut.read_far (s := s) hf).2.1, (Ut.read_far (s := s) hf).2.2]
  have g0 : (off == 0) = false := by simp; omega
  have g1 : (off == 1) = false := by simp; omega
  have g2 : (off == 2) = false := by simp; omega
  have g3 : (off == 3) = false := by simp; omega
  have g4 : (off == 4) = false := by simp; omega
  have g5 : (off == 5) = false := by simp; omega
  have g6 : (off == 6) = false := by simp; omega
  have g7 : (off == 7) = false := by simp; omega
  clear hf
  go_enter Tryz.func34, Tryz.ntmps34
  go_upto_region 1 with fail
  generalize (w.alloc (Obj.cells (xuV s iv ov) X17)).alloc (Obj.cells (xuV Ut.zero (.slice none 0 0) (.slice none 0 0)) X17) = w1 at *
  have c1 := HX.out.cells.2.1
  go_wp2_with fail
  refine (H7.out _).mono ?_
  rintro e w2 ⟨rfl, rfl⟩
  clear c1 H7
  have HX3 := Lib.hid (HX.out.res s iv ov)
  go_wp2_with (first | (refine wpList_load_row rfl X17 _ rfl w.heap.size rfl X17 _ (0, 0) _ HX.out.x Tryz.underlying51 rfl info_X17 ?_) | (refine wpList_store_row rfl X17 _ _ rfl (w.heap.size + 1) (xuV s iv ov) rfl rfl X17 _ HX.out.r info_X17 rfl (xuV_one _ HI.out.one HO.out.one) ?_))
  exact bodyPost_ret (results_cbbU X17 Tryz.results34 _ _ (w.heap.size + 1) _ _ _ rfl rfl rfl HX3.out.ret) rfl ⟨_, _, rfl, ⟨HI.out.low HX3.out.bel, HO.out.low HX3.out.bel, HX3.out.bel⟩⟩
set_option maxHeartbeats 8000000 in
theorem rread3 (G : Nat → Prop) (s : Ut.S) (iv ov : Value) (w : World) (hG : ∀ k, G k → k < w.heap.size) (hi : VwG G w iv s.q) (ho : VwG G w ov s.out) (ok : Ut.Ok s) :
    Calls Tryz.prog 34 #[.agg (xuV s iv ov), .int .u64 3] w fun e w' => ∃ iv' ov', e = .returned (.tuple #[.agg (xuV (Ut.readS s 3) iv' ov'), .int .i64 (Ut.readV s 3), .bool (Ut.is 3)]) ∧ XuQ G w w' (Ut.readS s 3) iv' ov' := by
  have HX := Lib.hid (XuAt.new w s iv ov)
  have hz := zero_x17
  have HI := Lib.hid hi
  have HO := Lib.hid ho
  have HG := Lib.hid hG
  have HOK := Lib.hid ok
  have H7 := Lib.hid (rbit_c s.lcr 7 ok.lcr.1 (by have := ok.lcr.2; omega) (by omega))
  have e7 := Ut.bti_b s.lcr 7
  have hhi : Ut.bt s.lcr 7 = Ut.hi s := rfl
  rw [hhi] at e7
  clear hi ho hhi
  generalize Ut.bti s.lcr 7 = b7 at *
  rw [Ut.read3_v, Ut.read3_s, Ut.is_lt (by omega)]
  go_enter Tryz.func34, Tryz.ntmps34
  go_upto_region 1 with fail
  generalize (w.alloc (Obj.cells (xuV s iv ov) X17)).alloc (Obj.cells (xuV Ut.zero (.slice none 0 0) (.slice none 0 0)) X17) = w1 at *
  have c1 := HX.out.cells.2.1
  go_wp2_with fail
  refine (H7.out _).mono ?_
  rintro e w2 ⟨rfl, rfl⟩
  clear c1 H7
  go_upto_region 23 with fail
  have hs0 : CsAt w2.drew w.heap.size X17 (xuV s iv ov) := HX.out.x.low (below_dU (Below.refl _ _) 1)
  have HXd := Lib.hid (show XuAt w w2.drew s Ut.zero iv ov (.slice none 0 0) (.slice none 0 0) from HX.out.low (below_dU (Below.refl _ _) 1))
  refine wp_region_noPanic ?_
  refine wp_region_held (S := fun W => CsAt W w.heap.size X17 (xuV s iv ov)) (by kernel_rfl) ?_
  refine takeH (fuel := 5) (i := 0) (.agg (xuV s iv ov)) ?_ rfl (by kernel_rfl) (by kernel_rfl) (by kernel_rfl) (fun _ _ _ h => h) (by kernel_rfl) (fun W hS => exec_load_row X17 _ rfl w.heap.size rfl X17 _ _ hS Tryz.underlying51 rfl info_X17) hs0 ?_ ?_
  rotate_left 1
  · go_simp
    exact rfl
  refine takeH (fuel := 4) (i := 1) (.pointer (some ⟨w.heap.size, 1, none⟩)) ?_ rfl (by kernel_rfl) (by kernel_rfl) (by kernel_rfl) (fun _ _ _ h => h) (by kernel_rfl) (fun W hS => by go_simp) hs0 ?_ ?_
  rotate_left 1
  · go_simp
    exact rfl
  refine takeH (fuel := 3) (i := 2) (.int .i64 s.lcr) ?_ rfl (by kernel_rfl) (by kernel_rfl) (by kernel_rfl) (fun _ _ _ h => h) (by kernel_rfl) (fun W hS => by (have q := hS.cell 1; simp only [xuV, List.getElem?_toArray, List.getElem?_cons_succ, List.getElem?_cons_zero] at q; go_simp)) hs0 ?_ ?_
  rotate_left 1
  · go_simp
    exact rfl
  refine wpAnyH_all (fuel := 2) (rs := [3]) (by kernel_rfl) (by decide) ?_
  intro i hi
  obtain rfl : i = 3 := by simpa using hi
  refine wpOp_unitB (w2.drew.setRow (w.heap.size + 1) (xuV s iv ov)) _ rfl (by kernel_rfl) (exec_store_row X17 _ _ rfl (w.heap.size + 1) (xuV s iv ov) rfl rfl X17 _ HXd.out.r info_X17 rfl (xuV_one _ HI.out.one HO.out.one)) rfl ?_
  have HX3 := Lib.hid (HXd.out.res s iv ov)
  have hs1 := HX3.out.x
  refine ⟨hs1, ?_⟩
  refine takeH (fuel := 1) (i := 4) (.int .i64 s.lcr) ?_ rfl (by kernel_rfl) (by kernel_rfl) (by kernel_rfl) (fun _ _ _ h => h) (by kernel_rfl) (fun W hS => by go_simp) hs1 ?_ ?_
  rotate_left 1
  · go_simp
    exact rfl
  refine takeH (fuel := 0) (i := 5) (.bool true) ?_ rfl (by kernel_rfl) (by kernel_rfl) (by kernel_rfl) (fun _ _ _ h => h) (by kernel_rfl) (fun W hS => by go_simp) hs1 ?_ ?_
  rotate_left 1
  · go_simp
    exact rfl
  refine wpAnyH_done (by kernel_rfl) ?_ _
  refine NoPanic.normal ?_
  clear hs0 hs1 HX
  generalize w2.drew.setRow (w.heap.size + 1) (xuV s iv ov) = w9 at *
  go_wp2_with fail
  exact bodyPost_ret (results_cbbU X17 Tryz.results34 _ _ (w.heap.size + 1) _ _ _ rfl rfl rfl HX3.out.ret) rfl ⟨_, _, rfl, ⟨HI.out.low HX3.out.bel, HO.out.low HX3.out.bel, HX3.out.bel⟩⟩
set_option maxHeartbeats 8000000 in
theorem rread4 (G : Nat → Prop) (s : Ut.S) (iv ov : Value) (w : World) (hG : ∀ k, G k → k < w.heap.size) (hi : VwG G w iv s.q) (ho : VwG G w ov s.out) (ok : Ut.Ok s) :
    Calls Tryz.prog 34 #[.agg (xuV s iv ov), .int .u64 4] w fun e w' => ∃ iv' ov', e = .returned (.tuple #[.agg (xuV (Ut.readS s 4) iv' ov'), .int .i64 (Ut.readV s 4), .bool (Ut.is 4)]) ∧ XuQ G w w' (Ut.readS s 4) iv' ov' := by
  have HX := Lib.hid (XuAt.new w s iv ov)
  have hz := zero_x17
  have HI := Lib.hid hi
  have HO := Lib.hid ho
  have HG := Lib.hid hG
  have HOK := Lib.hid ok
  have H7 := Lib.hid (rbit_c s.lcr 7 ok.lcr.1 (by have := ok.lcr.2; omega) (by omega))
  have e7 := Ut.bti_b s.lcr 7
  have hhi : Ut.bt s.lcr 7 = Ut.hi s := rfl
  rw [hhi] at e7
  clear hi ho hhi
  generalize Ut.bti s.lcr 7 = b7 at *
  rw [Ut.read4_v, Ut.read4_s, Ut.is_lt (by omega)]
  go_enter Tryz.func34, Tryz.ntmps34
  go_upto_region 1 with fail
  generalize (w.alloc (Obj.cells (xuV s iv ov) X17)).alloc (Obj.cells (xuV Ut.zero (.slice none 0 0) (.slice none 0 0)) X17) = w1 at *
  have c1 := HX.out.cells.2.1
  go_wp2_with fail
  refine (H7.out _).mono ?_
  rintro e w2 ⟨rfl, rfl⟩
  clear c1 H7
  go_upto_region 25 with fail
  have hs0 : CsAt w2.drew w.heap.size X17 (xuV s iv ov) := HX.out.x.low (below_dU (Below.refl _ _) 1)
  have HXd := Lib.hid (show XuAt w w2.drew s Ut.zero iv ov (.slice none 0 0) (.slice none 0 0) from HX.out.low (below_dU (Below.refl _ _) 1))
  refine wp_region_noPanic ?_
  refine wp_region_held (S := fun W => CsAt W w.heap.size X17 (xuV s iv ov)) (by kernel_rfl) ?_
  refine takeH (fuel := 5) (i := 0) (.agg (xuV s iv ov)) ?_ rfl (by kernel_rfl) (by kernel_rfl) (by kernel_rfl) (fun _ _ _ h => h) (by kernel_rfl) (fun W hS => exec_load_row X17 _ rfl w.heap.size rfl X17 _ _ hS Tryz.underlying51 rfl info_X17) hs0 ?_ ?_
  rotate_left 1
  · go_simp
    exact rfl
  refine takeH (fuel := 4) (i := 1) (.pointer (some ⟨w.heap.size, 2, none⟩)) ?_ rfl (by kernel_rfl) (by kernel_rfl) (by kernel_rfl) (fun _ _ _ h => h) (by kernel_rfl) (fun W hS => by go_simp) hs0 ?_ ?_
  rotate_left 1
  · go_simp
    exact rfl
  refine takeH (fuel := 3) (i := 2) (.int .i64 s.mcr) ?_ rfl (by kernel_rfl) (by kernel_rfl) (by kernel_rfl) (fun _ _ _ h => h) (by kernel_rfl) (fun W hS => by (have q := hS.cell 2; simp only [xuV, List.getElem?_toArray, List.getElem?_cons_succ, List.getElem?_cons_zero] at q; go_simp)) hs0 ?_ ?_
  rotate_left 1
  · go_simp
    exact rfl
  refine wpAnyH_all (fuel := 2) (rs := [3]) (by kernel_rfl) (by decide) ?_
  intro i hi
  obtain rfl : i = 3 := by simpa using hi
  refine wpOp_unitB (w2.drew.setRow (w.heap.size + 1) (xuV s iv ov)) _ rfl (by kernel_rfl) (exec_store_row X17 _ _ rfl (w.heap.size + 1) (xuV s iv ov) rfl rfl X17 _ HXd.out.r info_X17 rfl (xuV_one _ HI.out.one HO.out.one)) rfl ?_
  have HX3 := Lib.hid (HXd.out.res s iv ov)
  have hs1 := HX3.out.x
  refine ⟨hs1, ?_⟩
  refine takeH (fuel := 1) (i := 4) (.int .i64 s.mcr) ?_ rfl (by kernel_rfl) (by kernel_rfl) (by kernel_rfl) (fun _ _ _ h => h) (by kernel_rfl) (fun W hS => by go_simp) hs1 ?_ ?_
  rotate_left 1
  · go_simp
    exact rfl
  refine takeH (fuel := 0) (i := 5) (.bool true) ?_ rfl (by kernel_rfl) (by kernel_rfl) (by kernel_rfl) (fun _ _ _ h => h) (by kernel_rfl) (fun W hS => by go_simp) hs1 ?_ ?_
  rotate_left 1
  · go_simp
    exact rfl
  refine wpAnyH_done (by kernel_rfl) ?_ _
  refine NoPanic.normal ?_
  clear hs0 hs1 HX
  generalize w2.drew.setRow (w.heap.size + 1) (xuV s iv ov) = w9 at *
  go_wp2_with fail
  exact bodyPost_ret (results_cbbU X17 Tryz.results34 _ _ (w.heap.size + 1) _ _ _ rfl rfl rfl HX3.out.ret) rfl ⟨_, _, rfl, ⟨HI.out.low HX3.out.bel, HO.out.low HX3.out.bel, HX3.out.bel⟩⟩
set_option maxHeartbeats 8000000 in
theorem rread7 (G : Nat → Prop) (s : Ut.S) (iv ov : Value) (w : World) (hG : ∀ k, G k → k < w.heap.size) (hi : VwG G w iv s.q) (ho : VwG G w ov s.out) (ok : Ut.Ok s) :
    Calls Tryz.prog 34 #[.agg (xuV s iv ov), .int .u64 7] w fun e w' => ∃ iv' ov', e = .returned (.tuple #[.agg (xuV (Ut.readS s 7) iv' ov'), .int .i64 (Ut.readV s 7), .bool (Ut.is 7)]) ∧ XuQ G w w' (Ut.readS s 7) iv' ov' := by
  have HX := Lib.hid (XuAt.new w s iv ov)
  have hz := zero_x17
  have HI := Lib.hid hi
  have HO := Lib.hid ho
  have HG := Lib.hid hG
  have HOK := Lib.hid ok
  have H7 := Lib.hid (rbit_c s.lcr 7 ok.lcr.1 (by have := ok.lcr.2; omega) (by omega))
  have e7 := Ut.bti_b s.lcr 7
  have hhi : Ut.bt s.lcr 7 = Ut.hi s := rfl
  rw [hhi] at e7
  clear hi ho hhi
  generalize Ut.bti s.lcr 7 = b7 at *
  rw [Ut.read7_v, Ut.read7_s, Ut.is_lt (by omega)]
  go_enter Tryz.func34, Tryz.ntmps34
  go_upto_region 1 with fail
  generalize (w.alloc (Obj.cells (xuV s iv ov) X17)).alloc (Obj.cells (xuV Ut.zero (.slice none 0 0) (.slice none 0 0)) X17) = w1 at *
  have c1 := HX.out.cells.2.1
  go_wp2_with fail
  refine (H7.out _).mono ?_
  rintro e w2 ⟨rfl, rfl⟩
  clear c1 H7
  go_upto_region 39 with fail
  have hs0 : CsAt w2.drew w.heap.size X17 (xuV s iv ov) := HX.out.x.low (below_dU (Below.refl _ _) 1)
  have HXd := Lib.hid (show XuAt w w2.drew s Ut.zero iv ov (.slice none 0 0) (.slice none 0 0) from HX.out.low (below_dU (Below.refl _ _) 1))
  refine wp_region_noPanic ?_
  refine wp_region_held (S := fun W => CsAt W w.heap.size X17 (xuV s iv ov)) (by kernel_rfl) ?_
  refine takeH (fuel := 5) (i := 0) (.agg (xuV s iv ov)) ?_ rfl (by kernel_rfl) (by kernel_rfl) (by kernel_rfl) (fun _ _ _ h => h) (by kernel_rfl) (fun W hS => exec_load_row X17 _ rfl w.heap.size rfl X17 _ _ hS Tryz.underlying51 rfl info_X17) hs0 ?_ ?_
  rotate_left 1
  · go_simp
    exact rfl
  refine takeH (fuel := 4) (i := 1) (.pointer (some ⟨w.heap.size, 3, none⟩)) ?_ rfl (by kernel_rfl) (by kernel_rfl) (by kernel_rfl) (fun _ _ _ h => h) (by kernel_rfl) (fun W hS => by go_simp) hs0 ?_ ?_
  rotate_left 1
  · go_simp
    exact rfl
  refine takeH (fuel := 3) (i := 2) (.int .i64 s.scr) ?_ rfl (by kernel_rfl) (by kernel_rfl) (by kernel_rfl) (fun _ _ _ h => h) (by kernel_rfl) (fun W hS => by (have q := hS.cell 3; simp only [xuV, List.getElem?_toArray, List.getElem?_cons_succ, List.getElem?_cons_zero] at q; go_simp)) hs0 ?_ ?_
  rotate_left 1
  · go_simp
    exact rfl
  refine wpAnyH_all (fuel := 2) (rs := [3]) (by kernel_rfl) (by decide) ?_
  intro i hi
  obtain rfl : i = 3 := by simpa using hi
  refine wpOp_unitB (w2.drew.setRow (w.heap.size + 1) (xuV s iv ov)) _ rfl (by kernel_rfl) (exec_store_row X17 _ _ rfl (w.heap.size + 1) (xuV s iv ov) rfl rfl X17 _ HXd.out.r info_X17 rfl (xuV_one _ HI.out.one HO.out.one)) rfl ?_
  have HX3 := Lib.hid (HXd.out.res s iv ov)
  have hs1 := HX3.out.x
  refine ⟨hs1, ?_⟩
  refine takeH (fuel := 1) (i := 4) (.int .i64 s.scr) ?_ rfl (by kernel_rfl) (by kernel_rfl) (by kernel_rfl) (fun _ _ _ h => h) (by kernel_rfl) (fun W hS => by go_simp) hs1 ?_ ?_
  rotate_left 1
  · go_simp
    exact rfl
  refine takeH (fuel := 0) (i := 5) (.bool true) ?_ rfl (by kernel_rfl) (by kernel_rfl) (by kernel_rfl) (fun _ _ _ h => h) (by kernel_rfl) (fun W hS => by go_simp) hs1 ?_ ?_
  rotate_left 1
  · go_simp
    exact rfl
  refine wpAnyH_done (by kernel_rfl) ?_ _
  refine NoPanic.normal ?_
  clear hs0 hs1 HX
  generalize w2.drew.setRow (w.heap.size + 1) (xuV s iv ov) = w9 at *
  go_wp2_with fail
  exact bodyPost_ret (results_cbbU X17 Tryz.results34 _ _ (w.heap.size + 1) _ _ _ rfl rfl rfl HX3.out.ret) rfl ⟨_, _, rfl, ⟨HI.out.low HX3.out.bel, HO.out.low HX3.out.bel, HX3.out.bel⟩⟩
set_option maxHeartbeats 8000000 in
theorem rread1 (G : Nat → Prop) (s : Ut.S) (iv ov : Value) (w : World) (hG : ∀ k, G k → k < w.heap.size) (hi : VwG G w iv s.q) (ho : VwG G w ov s.out) (ok : Ut.Ok s) :
    Calls Tryz.prog 34 #[.agg (xuV s iv ov), .int .u64 1] w fun e w' => ∃ iv' ov', e = .returned (.tuple #[.agg (xuV (Ut.readS s 1) iv' ov'), .int .i64 (Ut.readV s 1), .bool (Ut.is 1)]) ∧ XuQ G w w' (Ut.readS s 1) iv' ov' := by
  have HX := Lib.hid (XuAt.new w s iv ov)
  have hz := zero_x17
  have HI := Lib.hid hi
  have HO := Lib.hid ho
  have HG := Lib.hid hG
  have HOK := Lib.hid ok
  have H7 := Lib.hid (rbit_c s.lcr 7 ok.lcr.1 (by have := ok.lcr.2; omega) (by omega))
  have e7 := Ut.bti_b s.lcr 7
  have hhi : Ut.bt s.lcr 7 = Ut.hi s := rfl
  rw [hhi] at e7
  clear hi ho hhi
  generalize Ut.bti s.lcr 7 = b7 at *
  rw [Ut.read1_v, Ut.read1_s, Ut.is_lt (by omega)]
  cases hl : Ut.hi s with
  | true =>
    rw [hl] at e7
    rw [if_pos rfl]
    go_enter Tryz.func34, Tryz.ntmps34
    go_upto_region 1 with fail
    generalize (w.alloc (Obj.cells (xuV s iv ov) X17)).alloc (Obj.cells (xuV Ut.zero (.slice none 0 0) (.slice none 0 0)) X17) = w1 at *
    have c1 := HX.out.cells.2.1
    go_wp2_with fail
    refine (H7.out _).mono ?_
    rintro e w2 ⟨rfl, rfl⟩
    clear c1 H7
    go_upto_region 13 with fail
    have hs0 : CsAt w2.drew w.heap.size X17 (xuV s iv ov) := HX.out.x.low (below_dU (Below.refl _ _) 1)
    have HXd := Lib.hid (show XuAt w w2.drew s Ut.zero iv ov (.slice none 0 0) (.slice none 0 0) from HX.out.low (below_dU (Below.refl _ _) 1))
    refine wp_region_noPanic ?_
    refine wp_region_held (S := fun W => CsAt W w.heap.size X17 (xuV s iv ov)) (by kernel_rfl) ?_
    refine takeH (fuel := 5) (i := 0) (.agg (xuV s iv ov)) ?_ rfl (by kernel_rfl) (by kernel_rfl) (by kernel_rfl) (fun _ _ _ h => h) (by kernel_rfl) (fun W hS => exec_load_row X17 _ rfl w.heap.size rfl X17 _ _ hS Tryz.underlying51 rfl info_X17) hs0 ?_ ?_
    rotate_left 1
    · go_simp
      exact rfl
    refine takeH (fuel := 4) (i := 1) (.pointer (some ⟨w.heap.size, 5, none⟩)) ?_ rfl (by kernel_rfl) (by kernel_rfl) (by kernel_rfl) (fun _ _ _ h => h) (by kernel_rfl) (fun W hS => by go_simp) hs0 ?_ ?_
    rotate_left 1
    · go_simp
      exact rfl
    refine takeH (fuel := 3) (i := 2) (.int .i64 s.dlm) ?_ rfl (by kernel_rfl) (by kernel_rfl) (by kernel_rfl) (fun _ _ _ h => h) (by kernel_rfl) (fun W hS => by (have q := hS.cell 5; simp only [xuV, List.getElem?_toArray, List.getElem?_cons_succ, List.getElem?_cons_zero] at q; go_simp)) hs0 ?_ ?_
    rotate_left 1
    · go_simp
      exact rfl
    refine wpAnyH_all (fuel := 2) (rs := [3]) (by kernel_rfl) (by decide) ?_
    intro i hi
    obtain rfl : i = 3 := by simpa using hi
    refine wpOp_unitB (w2.drew.setRow (w.heap.size + 1) (xuV s iv ov)) _ rfl (by kernel_rfl) (exec_store_row X17 _ _ rfl (w.heap.size + 1) (xuV s iv ov) rfl rfl X17 _ HXd.out.r info_X17 rfl (xuV_one _ HI.out.one HO.out.one)) rfl ?_
    have HX3 := Lib.hid (HXd.out.res s iv ov)
    have hs1 := HX3.out.x
    refine ⟨hs1, ?_⟩
    refine takeH (fuel := 1) (i := 4) (.int .i64 s.dlm) ?_ rfl (by kernel_rfl) (by kernel_rfl) (by kernel_rfl) (fun _ _ _ h => h) (by kernel_rfl) (fun W hS => by go_simp) hs1 ?_ ?_
    rotate_left 1
    · go_simp
      exact rfl
    refine takeH (fuel := 0) (i := 5) (.bool true) ?_ rfl (by kernel_rfl) (by kernel_rfl) (by kernel_rfl) (fun _ _ _ h => h) (by kernel_rfl) (fun W hS => by go_simp) hs1 ?_ ?_
    rotate_left 1
    · go_simp
      exact rfl
    refine wpAnyH_done (by kernel_rfl) ?_ _
    refine NoPanic.normal ?_
    clear hs0 hs1 HX
    generalize w2.drew.setRow (w.heap.size + 1) (xuV s iv ov) = w9 at *
    go_wp2_with fail
    exact bodyPost_ret (results_cbbU X17 Tryz.results34 _ _ (w.heap.size + 1) _ _ _ rfl rfl rfl HX3.out.ret) rfl ⟨_, _, rfl, ⟨HI.out.low HX3.out.bel, HO.out.low HX3.out.bel, HX3.out.bel⟩⟩
  | false =>
    rw [hl] at e7
    rw [if_neg (by simp)]
    go_enter Tryz.func34, Tryz.ntmps34
    go_upto_region 1 with fail
    generalize (w.alloc (Obj.cells (xuV s iv ov) X17)).alloc (Obj.cells (xuV Ut.zero (.slice none 0 0) (.slice none 0 0)) X17) = w1 at *
    have c1 := HX.out.cells.2.1
    go_wp2_with fail
    refine (H7.out _).mono ?_
    rintro e w2 ⟨rfl, rfl⟩
    clear c1 H7
    go_upto_region 14 with fail
    have hs0 : CsAt w2.drew w.heap.size X17 (xuV s iv ov) := HX.out.x.low (below_dU (Below.refl _ _) 1)
    have HXd := Lib.hid (show XuAt w w2.drew s Ut.zero iv ov (.slice none 0 0) (.slice none 0 0) from HX.out.low (below_dU (Below.refl _ _) 1))
    refine wp_region_noPanic ?_
    refine wp_region_held (S := fun W => CsAt W w.heap.size X17 (xuV s iv ov)) (by kernel_rfl) ?_
    refine takeH (fuel := 5) (i := 0) (.agg (xuV s iv ov)) ?_ rfl (by kernel_rfl) (by kernel_rfl) (by kernel_rfl) (fun _ _ _ h => h) (by kernel_rfl) (fun W hS => exec_load_row X17 _ rfl w.heap.size rfl X17 _ _ hS Tryz.underlying51 rfl info_X17) hs0 ?_ ?_
    rotate_left 1
    · go_simp
      exact rfl
    refine takeH (fuel := 4) (i := 1) (.pointer (some ⟨w.heap.size, 0, none⟩)) ?_ rfl (by kernel_rfl) (by kernel_rfl) (by kernel_rfl) (fun _ _ _ h => h) (by kernel_rfl) (fun W hS => by go_simp) hs0 ?_ ?_
    rotate_left 1
    · go_simp
      exact rfl
    refine takeH (fuel := 3) (i := 2) (.int .i64 s.ier) ?_ rfl (by kernel_rfl) (by kernel_rfl) (by kernel_rfl) (fun _ _ _ h => h) (by kernel_rfl) (fun W hS => by (have q := hS.cell 0; simp only [xuV, List.getElem?_toArray, List.getElem?_cons_zero] at q; go_simp)) hs0 ?_ ?_
    rotate_left 1
    · go_simp
      exact rfl
    refine wpAnyH_all (fuel := 2) (rs := [3]) (by kernel_rfl) (by decide) ?_
    intro i hi
    obtain rfl : i = 3 := by simpa using hi
    refine wpOp_unitB (w2.drew.setRow (w.heap.size + 1) (xuV s iv ov)) _ rfl (by kernel_rfl) (exec_store_row X17 _ _ rfl (w.heap.size + 1) (xuV s iv ov) rfl rfl X17 _ HXd.out.r info_X17 rfl (xuV_one _ HI.out.one HO.out.one)) rfl ?_
    have HX3 := Lib.hid (HXd.out.res s iv ov)
    have hs1 := HX3.out.x
    refine ⟨hs1, ?_⟩
    refine takeH (fuel := 1) (i := 4) (.int .i64 s.ier) ?_ rfl (by kernel_rfl) (by kernel_rfl) (by kernel_rfl) (fun _ _ _ h => h) (by kernel_rfl) (fun W hS => by go_simp) hs1 ?_ ?_
    rotate_left 1
    · go_simp
      exact rfl
    refine takeH (fuel := 0) (i := 5) (.bool true) ?_ rfl (by kernel_rfl) (by kernel_rfl) (by kernel_rfl) (fun _ _ _ h => h) (by kernel_rfl) (fun W hS => by go_simp) hs1 ?_ ?_
    rotate_left 1
    · go_simp
      exact rfl
    refine wpAnyH_done (by kernel_rfl) ?_ _
    refine NoPanic.normal ?_
    clear hs0 hs1 HX
    generalize w2.drew.setRow (w.heap.size + 1) (xuV s iv ov) = w9 at *
    go_wp2_with fail
    exact bodyPost_ret (results_cbbU X17 Tryz.results34 _ _ (w.heap.size + 1) _ _ _ rfl rfl rfl HX3.out.ret) rfl ⟨_, _, rfl, ⟨HI.out.low HX3.out.bel, HO.out.low HX3.out.bel, HX3.out.bel⟩⟩
set_option maxHeartbeats 8000000 in
theorem rread0h (G : Nat → Prop) (s : Ut.S) (iv ov : Value) (w : World) (hG : ∀ k, G k → k < w.heap.size) (hi : VwG G w iv s.q) (ho : VwG G w ov s.out) (ok : Ut.Ok s) (hl : Ut.hi s = true) :
    Calls Tryz.prog 34 #[.agg (xuV s iv ov), .int .u64 0] w fun e w' => ∃ iv' ov', e = .returned (.tuple #[.agg (xuV (Ut.readS s 0) iv' ov'), .int .i64 (Ut.readV s 0), .bool (Ut.is 0)]) ∧ XuQ G w w' (Ut.readS s 0) iv' ov' := by
  have HX := Lib.hid (XuAt.new w s iv ov)
  have hz := zero_x17
  have HI := Lib.hid hi
  have HO := Lib.hid ho
  have HG := Lib.hid hG
  have HOK := Lib.hid ok
  have H7 := Lib.hid (rbit_c s.lcr 7 ok.lcr.1 (by have := ok.lcr.2; omega) (by omega))
  have e7 := Ut.bti_b s.lcr 7
  have hhi : Ut.bt s.lcr 7 = Ut.hi s := rfl
  rw [hhi] at e7
  clear hi ho hhi
  generalize Ut.bti s.lcr 7 = b7 at *
  rw [Ut.read0_v, Ut.read0_s, Ut.is_lt (by omega), if_pos hl, if_pos hl]
  rw [hl] at e7
  go_enter Tryz.func34, Tryz.ntmps34
  go_upto_region 1 with fail
  generalize (w.alloc (Obj.cells (xuV s iv ov) X17)).alloc (Obj.cells (xuV Ut.zero (.slice none 0 0) (.slice none 0 0)) X17) = w1 at *
  have c1 := HX.out.cells.2.1
  go_wp2_with fail
  refine (H7.out _).mono ?_
  rintro e w2 ⟨rfl, rfl⟩
  clear c1 H7
  go_upto_region 5 with fail
  have hs0 : CsAt w2.drew w.heap.size X17 (xuV s iv ov) := HX.out.x.low (below_dU (Below.refl _ _) 1)
  have HXd := Lib.hid (show XuAt w w2.drew s Ut.zero iv ov (.slice none 0 0) (.slice none 0 0) from HX.out.low (below_dU (Below.refl _ _) 1))
  refine wp_region_noPanic ?_
  refine wp_region_held (S := fun W => CsAt W w.heap.size X17 (xuV s iv ov)) (by kernel_rfl) ?_
  refine takeH (fuel := 5) (i := 0) (.agg (xuV s iv ov)) ?_ rfl (by kernel_rfl) (by kernel_rfl) (by kernel_rfl) (fun _ _ _ h => h) (by kernel_rfl) (fun W hS => exec_load_row X17 _ rfl w.heap.size rfl X17 _ _ hS Tryz.underlying51 rfl info_X17) hs0 ?_ ?_
  rotate_left 1
  · go_simp
    exact rfl
  refine takeH (fuel := 4) (i := 1) (.pointer (some ⟨w.heap.size, 4, none⟩)) ?_ rfl (by kernel_rfl) (by kernel_rfl) (by kernel_rfl) (fun _ _ _ h => h) (by kernel_rfl) (fun W hS => by go_simp) hs0 ?_ ?_
  rotate_left 1
  · go_simp
    exact rfl
  refine takeH (fuel := 3) (i := 2) (.int .i64 s.dll) ?_ rfl (by kernel_rfl) (by kernel_rfl) (by kernel_rfl) (fun _ _ _ h => h) (by kernel_rfl) (fun W hS => by (have q := hS.cell 4; simp only [xuV, List.getElem?_toArray, List.getElem?_cons_succ, List.getElem?_cons_zero] at q; go_simp)) hs0 ?_ ?_
  rotate_left 1
  · go_simp
    exact rfl
  refine wpAnyH_all (fuel := 2) (rs := [3]) (by kernel_rfl) (by decide) ?_
  intro i hi
  obtain rfl : i = 3 := by simpa using hi
  refine wpOp_unitB (w2.drew.setRow (w.heap.size + 1) (xuV s iv ov)) _ rfl (by kernel_rfl) (exec_store_row X17 _ _ rfl (w.heap.size + 1) (xuV s iv ov) rfl rfl X17 _ HXd.out.r info_X17 rfl (xuV_one _ HI.out.one HO.out.one)) rfl ?_
  have HX3 := Lib.hid (HXd.out.res s iv ov)
  have hs1 := HX3.out.x
  refine ⟨hs1, ?_⟩
  refine takeH (fuel := 1) (i := 4) (.int .i64 s.dll) ?_ rfl (by kernel_rfl) (by kernel_rfl) (by kernel_rfl) (fun _ _ _ h => h) (by kernel_rfl) (fun W hS => by go_simp) hs1 ?_ ?_
  rotate_left 1
  · go_simp
    exact rfl
  refine takeH (fuel := 0) (i := 5) (.bool true) ?_ rfl (by kernel_rfl) (by kernel_rfl) (by kernel_rfl) (fun _ _ _ h => h) (by kernel_rfl) (fun W hS => by go_simp) hs1 ?_ ?_
  rotate_left 1
  · go_simp
    exact rfl
  refine wpAnyH_done (by kernel_rfl) ?_ _
  refine NoPanic.normal ?_
  clear hs0 hs1 HX
  generalize w2.drew.setRow (w.heap.size + 1) (xuV s iv ov) = w9 at *
  go_wp2_with fail
  exact bodyPost_ret (results_cbbU X17 Tryz.results34 _ _ (w.heap.size + 1) _ _ _ rfl rfl rfl HX3.out.ret) rfl ⟨_, _, rfl, ⟨HI.out.low HX3.out.bel, HO.out.low HX3.out.bel, HX3.out.bel⟩⟩
set_option maxHeartbeats 8000000 in
theorem rread0n (G : Nat → Prop) (s : Ut.S) (iv ov : Value) (w : World) (hG : ∀ k, G k → k < w.heap.size) (hi : VwG G w iv s.q) (ho : VwG G w ov s.out) (ok : Ut.Ok s) (hl : Ut.hi s = false) (hq : s.q = []) :
    Calls Tryz.prog 34 #[.agg (xuV s iv ov), .int .u64 0] w fun e w' => ∃ iv' ov', e = .returned (.tuple #[.agg (xuV (Ut.readS s 0) iv' ov'), .int .i64 (Ut.readV s 0), .bool (Ut.is 0)]) ∧ XuQ G w w' (Ut.readS s 0) iv' ov' := by
  have HX := Lib.hid (XuAt.new w s iv ov)
  have hz := zero_x17
  have HI := Lib.hid hi
  have HO := Lib.hid ho
  have HG := Lib.hid hG
  have HOK := Lib.hid ok
  have H7 := Lib.hid (rbit_c s.lcr 7 ok.lcr.1 (by have := ok.lcr.2; omega) (by omega))
  have e7 := Ut.bti_b s.lcr 7
  have hhi : Ut.bt s.lcr 7 = Ut.hi s := rfl
  rw [hhi] at e7
  clear hi ho hhi
  generalize Ut.bti s.lcr 7 = b7 at *
  rw [Ut.read0_v, Ut.read0_s, Ut.is_lt (by omega), if_neg (by rw [hl]; simp), if_neg (by rw [hl]; simp)]
  rw [hl] at e7
  rw [show ({ s with q := s.q.drop 1 } : Ut.S) = s by obtain ⟨⟩ := s; simp at hq ⊢; rw [hq]; rfl, show s.q.getD 0 0 = 0 by rw [hq]; rfl]
  obtain ⟨p, cap, hiv, hpv, -⟩ := HI.out.form
  rw [hq] at hiv
  have G9 := Lib.hid (show iv = .slice p 0 cap from hiv)
  clear hiv hpv hq
  go_enter Tryz.func34, Tryz.ntmps34
  go_upto_region 1 with fail
  generalize (w.alloc (Obj.cells (xuV s iv ov) X17)).alloc (Obj.cells (xuV Ut.zero (.slice none 0 0) (.slice none 0 0)) X17) = w1 at *
  have c1 := HX.out.cells.2.1
  go_wp2_with fail
  refine (H7.out _).mono ?_
  rintro e w2 ⟨rfl, rfl⟩
  clear c1 H7
  have c9 := HX.out.cells.2.2.2.2.2.2.2.2.2.1
  rw [G9.out] at c9
  have HX3 := Lib.hid (HX.out.res s iv ov)
  clear G9
  go_wp2_with (first | (refine wpList_load_row rfl X17 _ rfl w.heap.size rfl X17 _ (0, 0) _ HX.out.x Tryz.underlying51 rfl info_X17 ?_) | (refine wpList_store_row rfl X17 _ _ rfl (w.heap.size + 1) (xuV s iv ov) rfl rfl X17 _ HX.out.r info_X17 rfl (xuV_one _ HI.out.one HO.out.one) ?_))
  exact bodyPost_ret (results_cbbU X17 Tryz.results34 _ _ (w.heap.size + 1) _ _ _ rfl rfl rfl HX3.out.ret) rfl ⟨_, _, rfl, ⟨HI.out.low HX3.out.bel, HO.out.low HX3.out.bel, HX3.out.bel⟩⟩
set_option maxHeartbeats 8000000 in
theorem rread0c (G : Nat → Prop) (s : Ut.S) (iv ov : Value) (w : World) (hG : ∀ k, G k → k < w.heap.size) (hi : VwG G w iv s.q) (ho : VwG G w ov s.out) (ok : Ut.Ok s) (hl : Ut.hi s = false) (x : Int) (xs : List Int) (hq : s.q = x :: xs) :
    Calls Tryz.prog 34 #[.agg (xuV s iv ov), .int .u64 0] w fun e w' => ∃ iv' ov', e = .returned (.tuple #[.agg (xuV (Ut.readS s 0) iv' ov'), .int .i64 (Ut.readV s 0), .bool (Ut.is 0)]) ∧ XuQ G w w' (Ut.readS s 0) iv' ov' := by
  have HX := Lib.hid (XuAt.new w s iv ov)
  have hz := zero_x17
  have HI := Lib.hid hi
  have HO := Lib.hid ho
  have HG := Lib.hid hG
  have HOK := Lib.hid ok
  have H7 := Lib.hid (rbit_c s.lcr 7 ok.lcr.1 (by have := ok.lcr.2; omega) (by omega))
  have e7 := Ut.bti_b s.lcr 7
  have hhi : Ut.bt s.lcr 7 = Ut.hi s := rfl
  rw [hhi] at e7
  clear hi ho hhi
  generalize Ut.bti s.lcr 7 = b7 at *
  rw [Ut.read0_v, Ut.read0_s, Ut.is_lt (by omega), if_neg (by rw [hl]; simp), if_neg (by rw [hl]; simp)]
  rw [hl] at e7
  rw [show ({ s with q := s.q.drop 1 } : Ut.S) = { s with q := xs } by rw [hq]; rfl, show s.q.getD 0 0 = x by rw [hq]; rfl]
  have hxb : Ut.isB x := HOK.out.qs x (by rw [hq]; simp)
  have hqn := HOK.out.qn
  rw [hq] at hqn
  simp only [List.length_cons] at hqn
  have HI2 := HI.out
  rw [hq] at HI2
  obtain ⟨p, cap, hiv, -, hp2⟩ := HI2.form
  obtain ⟨b, off, rfl⟩ : ∃ b off, p = some ⟨b, off, none⟩ := by
    rcases hp2 with ⟨hp3, hcap0⟩ | hp3
    · obtain ⟨p', c', e', hc', -⟩ := HI2
      rw [hiv] at e'
      cases e'
      simp at hc'
      omega
    · exact hp3
  have hiv2 : iv = .slice (some ⟨b, off, none⟩) (xs.length + 1) cap := hiv
  clear hiv hp2
  have HI1 := Lib.hid HI
  subst hiv2
  obtain ⟨cx, htail, hcap⟩ := HI2.tail
  have HT := Lib.hid htail
  have HCX := Lib.hid cx
  have wx : IntKind.i64.wrap x = x := wrapI (by have := hxb.1; omega) (by have := hxb.2; omega)
  have HQ := Lib.hid hq
  have hbl : b < w.heap.size := World.block_lt_of_cell? _ _ cx
  have n1 : (1 : Int) ≤ ((xs.length + 1 : Nat) : Int) := by omega
  have n2 : (0 : Int) < ((xs.length + 1 : Nat) : Int) := by omega
  have n3 : ((xs.length + 1 : Nat) : Int) ≤ (cap : Int) := by omega
  have gl : ((xs.length + 1 : Nat) == 0) = false := by simp
  have gl2 : (((xs.length + 1 : Nat) : Int) == 0) = false := by simp; omega
  have HLN := Lib.hid (show (u8V xs).length = (xs.length + 1 - 1) * 1 by rw [u8V_len]; omega)
  have HM := Lib.hid (show xs.length + 1 - 1 = xs.length by omega)
  clear HI2 cx htail hq HI1
  generalize hm : xs.length + 1 = m at *
  go_enter Tryz.func34, Tryz.ntmps34
  go_upto_region 1 with fail
  generalize (w.alloc (Obj.cells (xuV s (.slice (some ⟨b, off, none⟩) m cap) ov) X17)).alloc (Obj.cells (xuV Ut.zero (.slice none 0 0) (.slice none 0 0)) X17) = w1 at *
  have c1 := HX.out.cells.2.1
  go_wp2_with fail
  refine (H7.out _).mono ?_
  rintro e w2 ⟨rfl, rfl⟩
  clear c1 H7
  have hb1 := HX.out.bel
  have c9 := HX.out.cells.2.2.2.2.2.2.2.2.2.1
  have cx := (hb1.cell (p := ⟨b, off, none⟩) hbl).trans HCX.out
  have HB1 := Lib.hid hb1
  clear hb1
  have hE : (w2.alloc (.cells #[] U8)).ownsRow w2.heap.size U8 1 (.slice (some ⟨w2.heap.size, 0, none⟩) 0 0) 0 [] := ⟨rfl, .inr ⟨w2.heap.size, 0, #[], rfl, Nat.le_refl _, CsAt.new w2 U8 #[], Nat.le_refl _, Nat.zero_le _, rfl, rfl⟩⟩
  have HE := Lib.hid hE
  have HB2 := Lib.hid ((Below.refl w2.heap.size w2).alloc (Nat.le_refl _) (.cells #[] U8))
  have HV2 := Lib.hid ((HT.out.low HB1.out).low HB2.out)
  have c9b := (HB2.out.cell (p := ⟨w.heap.size, 9, none⟩) HX.out.x.lt).trans c9
  clear hE
  by_cases hm1 : m = 1
  · skip
    have hx0 : xs = [] := List.length_eq_zero_iff.1 (by omega)
    subst hx0
    subst hm1
    have ho4 : (w2.alloc (.cells #[] U8)).ownsRow w2.heap.size U8 1 (.slice (some ⟨w2.heap.size, 0, none⟩) 0 0) 0 (u8V []) := HE.out
    have hX3 := HX.out.low HB2.out
    have j9 := hX3.x.cell 9
    have g9 := hX3.x.frozen 9
    simp only [xuV, List.getElem?_toArray, List.getElem?_cons_succ, List.getElem?_cons_zero] at j9
    have HX4 := Lib.hid (hX3.upd (i := 9) (v := .slice (some ⟨w2.heap.size, 0, none⟩) 0 0) (u := { s with q := [] }) (kv := .slice (some ⟨w2.heap.size, 0, none⟩) 0 0) (lv := ov) rfl)
    have HX5 := Lib.hid (HX4.out.res { s with q := [] } (.slice (some ⟨w2.heap.size, 0, none⟩) 0 0) ov)
    have hne := (HX.out.r).lt
    have hvg2 : VwG G (((w2.alloc (.cells #[] U8)).setCell ⟨w.heap.size, 9, none⟩ (.slice (some ⟨w2.heap.size, 0, none⟩) 0 0)).setRow (w.heap.size + 1) (xuV { s with q := [] } (.slice (some ⟨w2.heap.size, 0, none⟩) 0 0) ov)) (.slice (some ⟨w2.heap.size, 0, none⟩) 0 0) [] := by
      have hc : Chg (fun k => k = w.heap.size ∨ k = w.heap.size + 1) (w2.alloc (.cells #[] U8)) (((w2.alloc (.cells #[] U8)).setCell ⟨w.heap.size, 9, none⟩ (.slice (some ⟨w2.heap.size, 0, none⟩) 0 0)).setRow (w.heap.size + 1) (xuV { s with q := [] } (.slice (some ⟨w2.heap.size, 0, none⟩) 0 0) ov)) := (Chg.of_cell (.inl rfl) 9 _).trans (Chg.of_row (.inr rfl) _)
      exact own_vwG (hc.own ho4 (fun k hk => by have := (ho4.lt k hk).1; intro e; rcases e with e | e <;> omega)) (fun k hk => Nat.lt_of_lt_of_le (HG.out k hk) HB1.out.size)
    have HVF := Lib.hid hvg2
    clear hX3 ho4 hvg2 hne HV2 HX
    by_cases hc1 : cap = 1
    · skip
      subst hc1
      go_upto_region 10 with fail
      generalize (w2.alloc (.cells #[] U8)).setCell ⟨w.heap.size, 9, none⟩ (.slice (some ⟨w2.heap.size, 0, none⟩) 0 0) = w4 at *
      clear j9 g9 c9b
      go_wp2_with (first | (refine wpList_load_row rfl X17 _ rfl w.heap.size rfl X17 _ (0, 0) _ HX4.out.x Tryz.underlying51 rfl info_X17 ?_) | (refine wpList_store_row rfl X17 _ _ rfl (w.heap.size + 1) (xuV { s with q := [] } (.slice (some ⟨w2.heap.size, 0, none⟩) 0 0) ov) rfl rfl X17 _ HX4.out.r info_X17 rfl (xuV_one _ rfl HO.out.one) ?_))
      exact bodyPost_ret (results_cbbU X17 Tryz.results34 _ _ (w.heap.size + 1) _ _ _ rfl rfl rfl HX5.out.ret) rfl ⟨_, _, rfl, ⟨HVF.out, HO.out.low HX5.out.bel, HX5.out.bel⟩⟩
    · skip
      have n4 : (1 : Int) ≤ (cap : Int) := by omega
      go_upto_region 10 with fail
      generalize (w2.alloc (.cells #[] U8)).setCell ⟨w.heap.size, 9, none⟩ (.slice (some ⟨w2.heap.size, 0, none⟩) 0 0) = w4 at *
      clear j9 g9 c9b
      go_wp2_with (first | (refine wpList_load_row rfl X17 _ rfl w.heap.size rfl X17 _ (0, 0) _ HX4.out.x Tryz.underlying51 rfl info_X17 ?_) | (refine wpList_store_row rfl X17 _ _ rfl (w.heap.size + 1) (xuV { s with q := [] } (.slice (some ⟨w2.heap.size, 0, none⟩) 0 0) ov) rfl rfl X17 _ HX4.out.r info_X17 rfl (xuV_one _ rfl HO.out.one) ?_))
      exact bodyPost_ret (results_cbbU X17 Tryz.results34 _ _ (w.heap.size + 1) _ _ _ rfl rfl rfl HX5.out.ret) rfl ⟨_, _, rfl, ⟨HVF.out, HO.out.low HX5.out.bel, HX5.out.bel⟩⟩
  · skip
    have n4 : (1 : Int) < (cap : Int) := by omega
    have n5 : ¬ cap = 1 := by omega
    go_wp2_with (at_builtin; refine wpList_cat rfl _ _ U8S rfl w2.heap.size U8 _ 1 1 Tryz.underlying49 info_u8 rfl (by omega) (by omega) _ 0 [] rfl HE.out (some ⟨b, off + 1, none⟩) (m - 1) _ (u8V xs) rfl HV2.out HLN.out (u8V_one xs) (by omega) HB2.out.size ?_)
    intro v3 w3 ho3 hb3
    have hbb := HB2.out.trans hb3
    have hX3 := HX.out.low hbb
    have hm1 := HM.out
    have ho4 : w3.ownsRow w2.heap.size U8 1 v3 xs.length (u8V xs) := by
      have := ho3
      rw [hm1] at this
      simpa using this
    have j9 := hX3.x.cell 9
    have g9 := hX3.x.frozen 9
    simp only [xuV, List.getElem?_toArray, List.getElem?_cons_succ, List.getElem?_cons_zero] at j9
    have HX4 := Lib.hid (hX3.upd (i := 9) (v := v3) (u := { s with q := xs }) (kv := v3) (lv := ov) rfl)
    have HX5 := Lib.hid (HX4.out.res { s with q := xs } v3 ov)
    obtain ⟨p3, cap3, hv3, -⟩ := own_form ho4
    subst hv3
    have hne := (HX.out.r).lt
    have hvg2 : VwG G ((w3.setCell ⟨w.heap.size, 9, none⟩ (.slice p3 xs.length cap3)).setRow (w.heap.size + 1) (xuV { s with q := xs } (.slice p3 xs.length cap3) ov)) (.slice p3 xs.length cap3) xs := by
      have hc : Chg (fun k => k = w.heap.size ∨ k = w.heap.size + 1) w3 ((w3.setCell ⟨w.heap.size, 9, none⟩ (.slice p3 xs.length cap3)).setRow (w.heap.size + 1) (xuV { s with q := xs } (.slice p3 xs.length cap3) ov)) := (Chg.of_cell (.inl rfl) 9 _).trans (Chg.of_row (.inr rfl) _)
      exact own_vwG (hc.own ho4 (fun k hk => by have := (ho4.lt k hk).1; intro e; rcases e with e | e <;> omega)) (fun k hk => Nat.lt_of_lt_of_le (HG.out k hk) HB1.out.size)
    have HVF := Lib.hid hvg2
    clear ho3 hb3 hbb hX3 ho4 hvg2 hne HB2 HE HV2 c9 cx HX
    go_upto_region 10 with fail
    generalize w3.setCell ⟨w.heap.size, 9, none⟩ (.slice p3 xs.length cap3) = w4 at *
    go_wp2_with (first | (refine wpList_load_row rfl X17 _ rfl w.heap.size rfl X17 _ (0, 0) _ HX4.out.x Tryz.underlying51 rfl info_X17 ?_) | (refine wpList_store_row rfl X17 _ _ rfl (w.heap.size + 1) (xuV { s with q := xs } (.slice p3 xs.length cap3) ov) rfl rfl X17 _ HX4.out.r info_X17 rfl (xuV_one _ rfl HO.out.one) ?_))
    exact bodyPost_ret (results_cbbU X17 Tryz.results34 _ _ (w.heap.size + 1) _ _ _ rfl rfl rfl HX5.out.ret) rfl ⟨_, _, rfl, ⟨HVF.out, HO.out.low HX5.out.bel, HX5.out.bel⟩⟩
set_option maxHeartbeats 8000000 in
theorem rread2 (G : Nat → Prop) (s : Ut.S) (iv ov : Value) (w : World) (hG : ∀ k, G k → k < w.heap.size) (hi : VwG G w iv s.q) (ho : VwG G w ov s.out) (ok : Ut.Ok s) :
    Calls Tryz.prog 34 #[.agg (xuV s iv ov), .int .u64 2] w fun e w' => ∃ iv' ov', e = .returned (.tuple #[.agg (xuV (Ut.readS s 2) iv' ov'), .int .i64 (Ut.readV s 2), .bool (Ut.is 2)]) ∧ XuQ G w w' (Ut.readS s 2) iv' ov' := by
  have HX := Lib.hid (XuAt.new w s iv ov)
  have hz := zero_x17
  have HI := Lib.hid hi
  have HO := Lib.hid ho
  have HG := Lib.hid hG
  have HOK := Lib.hid ok
  have H7 := Lib.hid (rbit_c s.lcr 7 ok.lcr.1 (by have := ok.lcr.2; omega) (by omega))
  have e7 := Ut.bti_b s.lcr 7
  have hhi : Ut.bt s.lcr 7 = Ut.hi s := rfl
  rw [hhi] at e7
  clear hi ho hhi
  generalize Ut.bti s.lcr 7 = b7 at *
  rw [Ut.is_lt (by omega), Ut.read2_v, Ut.read2_s]
  have HC := Lib.hid (fun W (h : VwG G W iv s.q) => rcause_c G s iv ov HOK.out W h)
  have hc := Ut.cause_of s
  have hcf : s.fifo = false ∨ s.fifo = true := by cases s.fifo <;> simp
  generalize Ut.cause s = c at *
  have wc : IntKind.i64.wrap (c + 192) = c + 192 := wrapI (by omega) (by omega)
  by_cases h2 : c = 2
  · skip
    rw [if_pos h2]
    have g2 : (c == 2) = true := by simpa using h2
    clear hc h2
    rcases hcf with hf | hf
    · rw [if_neg (by rw [hf]; simp), Int.add_zero]
      have HF := Lib.hid hf
      clear hf
      go_enter Tryz.func34, Tryz.ntmps34
      go_upto_region 1 with fail
      generalize (w.alloc (Obj.cells (xuV s iv ov) X17)).alloc (Obj.cells (xuV Ut.zero (.slice none 0 0) (.slice none 0 0)) X17) = w1 at *
      have c1 := HX.out.cells.2.1
      go_wp2_with fail
      refine (H7.out _).mono ?_
      rintro e w2 ⟨rfl, rfl⟩
      clear c1 H7
      go_wp2_with (refine wpList_load_row rfl X17 _ rfl w.heap.size rfl X17 _ (0, 0) _ HX.out.x Tryz.underlying51 rfl info_X17 ?_)
      refine (HC.out _ (HI.out.low HX.out.bel)).mono ?_
      rintro e w3 ⟨rfl, hb3⟩
      have HX2 := Lib.hid (HX.out.low hb3)
      have c6 := HX2.out.cells.2.2.2.2.2.2.1
      rw [HF.out] at c6
      have c8 := HX2.out.cells.2.2.2.2.2.2.2.2.1
      have f8 := HX2.out.x.frozen 8
      clear hb3 HX HC
      have HX4 := Lib.hid (HX2.out.upd (i := 8) (v := .bool false) (u := { s with empty := false }) (kv := iv) (lv := ov) rfl)
      have HX3 := Lib.hid (HX4.out.res { s with empty := false } iv ov)
      have c6b := HX4.out.cells.2.2.2.2.2.2.1
      rw [show ({ s with empty := false } : Ut.S).fifo = s.fifo from rfl, HF.out] at c6b
      go_upto_region 19 with fail
      generalize w3.setCell ⟨w.heap.size, 8, none⟩ (.bool false) = w4 at *
      clear c6 c8 f8 HX2
      go_wp2_with (first | (refine wpList_load_row rfl X17 _ rfl w.heap.size rfl X17 _ (0, 0) _ HX4.out.x Tryz.underlying51 rfl info_X17 ?_) | (refine wpList_store_row rfl X17 _ _ rfl (w.heap.size + 1) (xuV { s with empty := false } iv ov) rfl rfl X17 _ HX4.out.r info_X17 rfl (xuV_one _ HI.out.one HO.out.one) ?_))
      exact bodyPost_ret (results_cbbU X17 Tryz.results34 _ _ (w.heap.size + 1) _ _ _ rfl rfl rfl HX3.out.ret) rfl ⟨_, _, rfl, ⟨HI.out.low HX3.out.bel, HO.out.low HX3.out.bel, HX3.out.bel⟩⟩
    · rw [if_pos hf]
      have HF := Lib.hid hf
      clear hf
      go_enter Tryz.func34, Tryz.ntmps34
      go_upto_region 1 with fail
      generalize (w.alloc (Obj.cells (xuV s iv ov) X17)).alloc (Obj.cells (xuV Ut.zero (.slice none 0 0) (.slice none 0 0)) X17) = w1 at *
      have c1 := HX.out.cells.2.1
      go_wp2_with fail
      refine (H7.out _).mono ?_
      rintro e w2 ⟨rfl, rfl⟩
      clear c1 H7
      go_wp2_with (refine wpList_load_row rfl X17 _ rfl w.heap.size rfl X17 _ (0, 0) _ HX.out.x Tryz.underlying51 rfl info_X17 ?_)
      refine (HC.out _ (HI.out.low HX.out.bel)).mono ?_
      rintro e w3 ⟨rfl, hb3⟩
      have HX2 := Lib.hid (HX.out.low hb3)
      have c6 := HX2.out.cells.2.2.2.2.2.2.1
      rw [HF.out] at c6
      have c8 := HX2.out.cells.2.2.2.2.2.2.2.2.1
      have f8 := HX2.out.x.frozen 8
      clear hb3 HX HC
      have HX4 := Lib.hid (HX2.out.upd (i := 8) (v := .bool false) (u := { s with empty := false }) (kv := iv) (lv := ov) rfl)
      have HX3 := Lib.hid (HX4.out.res { s with empty := false } iv ov)
      have c6b := HX4.out.cells.2.2.2.2.2.2.1
      rw [show ({ s with empty := false } : Ut.S).fifo = s.fifo from rfl, HF.out] at c6b
      go_upto_region 19 with fail
      generalize w3.setCell ⟨w.heap.size, 8, none⟩ (.bool false) = w4 at *
      clear c6 c8 f8 HX2
      go_wp2_with (first | (refine wpList_load_row rfl X17 _ rfl w.heap.size rfl X17 _ (0, 0) _ HX4.out.x Tryz.underlying51 rfl info_X17 ?_) | (refine wpList_store_row rfl X17 _ _ rfl (w.heap.size + 1) (xuV { s with empty := false } iv ov) rfl rfl X17 _ HX4.out.r info_X17 rfl (xuV_one _ HI.out.one HO.out.one) ?_))
      exact bodyPost_ret (results_cbbU X17 Tryz.results34 _ _ (w.heap.size + 1) _ _ _ rfl rfl rfl HX3.out.ret) rfl ⟨_, _, rfl, ⟨HI.out.low HX3.out.bel, HO.out.low HX3.out.bel, HX3.out.bel⟩⟩
  · skip
    rw [if_neg h2]
    have g2 : (c == 2) = false := by simpa using h2
    clear hc h2
    rcases hcf with hf | hf
    · rw [if_neg (by rw [hf]; simp), Int.add_zero]
      have HF := Lib.hid hf
      clear hf
      go_enter Tryz.func34, Tryz.ntmps34
      go_upto_region 1 with fail
      generalize (w.alloc (Obj.cells (xuV s iv ov) X17)).alloc (Obj.cells (xuV Ut.zero (.slice none 0 0) (.slice none 0 0)) X17) = w1 at *
      have c1 := HX.out.cells.2.1
      go_wp2_with fail
      refine (H7.out _).mono ?_
      rintro e w2 ⟨rfl, rfl⟩
      clear c1 H7
      go_wp2_with (refine wpList_load_row rfl X17 _ rfl w.heap.size rfl X17 _ (0, 0) _ HX.out.x Tryz.underlying51 rfl info_X17 ?_)
      refine (HC.out _ (HI.out.low HX.out.bel)).mono ?_
      rintro e w3 ⟨rfl, hb3⟩
      have HX2 := Lib.hid (HX.out.low hb3)
      have c6 := HX2.out.cells.2.2.2.2.2.2.1
      rw [HF.out] at c6
      have c8 := HX2.out.cells.2.2.2.2.2.2.2.2.1
      have f8 := HX2.out.x.frozen 8
      clear hb3 HX HC
      have HX3 := Lib.hid (HX2.out.res s iv ov)
      go_wp2_with (first | (refine wpList_load_row rfl X17 _ rfl w.heap.size rfl X17 _ (0, 0) _ HX2.out.x Tryz.underlying51 rfl info_X17 ?_) | (refine wpList_store_row rfl X17 _ _ rfl (w.heap.size + 1) (xuV s iv ov) rfl rfl X17 _ HX2.out.r info_X17 rfl (xuV_one _ HI.out.one HO.out.one) ?_))
      exact bodyPost_ret (results_cbbU X17 Tryz.results34 _ _ (w.heap.size + 1) _ _ _ rfl rfl rfl HX3.out.ret) rfl ⟨_, _, rfl, ⟨HI.out.low HX3.out.bel, HO.out.low HX3.out.bel, HX3.out.bel⟩⟩
    · rw [if_pos hf]
      have HF := Lib.hid hf
      clear hf
      go_enter Tryz.func34, Tryz.ntmps34
      go_upto_region 1 with fail
      generalize (w.alloc (Obj.cells (xuV s iv ov) X17)).alloc (Obj.cells (xuV Ut.zero (.slice none 0 0) (.slice none 0 0)) X17) = w1 at *
      have c1 := HX.out.cells.2.1
      go_wp2_with fail
      refine (H7.out _).mono ?_
      rintro e w2 ⟨rfl, rfl⟩
      clear c1 H7
      go_wp2_with (refine wpList_load_row rfl X17 _ rfl w.heap.size rfl X17 _ (0, 0) _ HX.out.x Tryz.underlying51 rfl info_X17 ?_)
      refine (HC.out _ (HI.out.low HX.out.bel)).mono ?_
      rintro e w3 ⟨rfl, hb3⟩
      have HX2 := Lib.hid (HX.out.low hb3)
      have c6 := HX2.out.cells.2.2.2.2.2.2.1
      rw [HF.out] at c6
      have c8 := HX2.out.cells.2.2.2.2.2.2.2.2.1
      have f8 := HX2.out.x.frozen 8
      clear hb3 HX HC
      have HX3 := Lib.hid (HX2.out.res s iv ov)
      go_wp2_with (first | (refine wpList_load_row rfl X17 _ rfl w.heap.size rfl X17 _ (0, 0) _ HX2.out.x Tryz.underlying51 rfl info_X17 ?_) | (refine wpList_store_row rfl X17 _ _ rfl (w.heap.size + 1) (xuV s iv ov) rfl rfl X17 _ HX2.out.r info_X17 rfl (xuV_one _ HI.out.one HO.out.one) ?_))
      exact bodyPost_ret (results_cbbU X17 Tryz.results34 _ _ (w.heap.size + 1) _ _ _ rfl rfl rfl HX3.out.ret) rfl ⟨_, _, rfl, ⟨HI.out.low HX3.out.bel, HO.out.low HX3.out.bel, HX3.out.bel⟩⟩
set_option maxHeartbeats 8000000 in
theorem rread5 (G : Nat → Prop) (s : Ut.S) (iv ov : Value) (w : World) (hG : ∀ k, G k → k < w.heap.size) (hi : VwG G w iv s.q) (ho : VwG G w ov s.out) (ok : Ut.Ok s) :
    Calls Tryz.prog 34 #[.agg (xuV s iv ov), .int .u64 5] w fun e w' => ∃ iv' ov', e = .returned (.tuple #[.agg (xuV (Ut.readS s 5) iv' ov'), .int .i64 (Ut.readV s 5), .bool (Ut.is 5)]) ∧ XuQ G w w' (Ut.readS s 5) iv' ov' := by
  have HX := Lib.hid (XuAt.new w s iv ov)
  have hz := zero_x17
  have HI := Lib.hid hi
  have HO := Lib.hid ho
  have HG := Lib.hid hG
  have HOK := Lib.hid ok
  have H7 := Lib.hid (rbit_c s.lcr 7 ok.lcr.1 (by have := ok.lcr.2; omega) (by omega))
  have e7 := Ut.bti_b s.lcr 7
  have hhi : Ut.bt s.lcr 7 = Ut.hi s := rfl
  rw [hhi] at e7
  clear hi ho hhi
  generalize Ut.bti s.lcr 7 = b7 at *
  rw [Ut.is_lt (by omega), Ut.read5_v, Ut.read5_s]
  have hlf : s.lost = false ∨ s.lost = true := by cases s.lost <;> simp
  obtain ⟨p, cap, hiv, -⟩ := HI.out.form
  have HIV := Lib.hid hiv
  clear hiv
  by_cases hq : s.q = []
  · skip
    rw [if_neg (by simpa using hq)]
    have e0 : decide (0 < s.q.length) = false := by rw [hq]; rfl
    clear hq
    rcases hlf with hf | hf
    · rw [if_neg (by rw [hf]; simp), Int.add_zero]
      have HF := Lib.hid hf
      clear hf
      go_enter Tryz.func34, Tryz.ntmps34
      go_upto_region 1 with fail
      generalize (w.alloc (Obj.cells (xuV s iv ov) X17)).alloc (Obj.cells (xuV Ut.zero (.slice none 0 0) (.slice none 0 0)) X17) = w1 at *
      have c1 := HX.out.cells.2.1
      go_wp2_with fail
      refine (H7.out _).mono ?_
      rintro e w2 ⟨rfl, rfl⟩
      clear c1 H7
      have c9 := HX.out.cells.2.2.2.2.2.2.2.2.2.1
      rw [HIV.out] at c9
      have c7 := HX.out.cells.2.2.2.2.2.2.2.1
      rw [HF.out] at c7
      have f7 := HX.out.x.frozen 7
      have HX4 := Lib.hid (HX.out.upd (i := 7) (v := .bool false) (u := { s with lost := false }) (kv := iv) (lv := ov) rfl)
      have HX3 := Lib.hid (HX4.out.res { s with lost := false } iv ov)
      clear HX HIV
      go_upto_region 33 with fail
      generalize w2.setCell ⟨w.heap.size, 7, none⟩ (.bool false) = w4 at *
      clear c7 c9 f7
      go_wp2_with (first | (refine wpList_load_row rfl X17 _ rfl w.heap.size rfl X17 _ (0, 0) _ HX4.out.x Tryz.underlying51 rfl info_X17 ?_) | (refine wpList_store_row rfl X17 _ _ rfl (w.heap.size + 1) (xuV { s with lost := false } iv ov) rfl rfl X17 _ HX4.out.r info_X17 rfl (xuV_one _ HI.out.one HO.out.one) ?_))
      exact bodyPost_ret (results_cbbU X17 Tryz.results34 _ _ (w.heap.size + 1) _ _ _ rfl rfl rfl HX3.out.ret) rfl ⟨_, _, rfl, ⟨HI.out.low HX3.out.bel, HO.out.low HX3.out.bel, HX3.out.bel⟩⟩
    · rw [if_pos hf]
      have HF := Lib.hid hf
      clear hf
      go_enter Tryz.func34, Tryz.ntmps34
      go_upto_region 1 with fail
      generalize (w.alloc (Obj.cells (xuV s iv ov) X17)).alloc (Obj.cells (xuV Ut.zero (.slice none 0 0) (.slice none 0 0)) X17) = w1 at *
      have c1 := HX.out.cells.2.1
      go_wp2_with fail
      refine (H7.out _).mono ?_
      rintro e w2 ⟨rfl, rfl⟩
      clear c1 H7
      have c9 := HX.out.cells.2.2.2.2.2.2.2.2.2.1
      rw [HIV.out] at c9
      have c7 := HX.out.cells.2.2.2.2.2.2.2.1
      rw [HF.out] at c7
      have f7 := HX.out.x.frozen 7
      have HX4 := Lib.hid (HX.out.upd (i := 7) (v := .bool false) (u := { s with lost := false }) (kv := iv) (lv := ov) rfl)
      have HX3 := Lib.hid (HX4.out.res { s with lost := false } iv ov)
      clear HX HIV
      go_upto_region 33 with fail
      generalize w2.setCell ⟨w.heap.size, 7, none⟩ (.bool false) = w4 at *
      clear c7 c9 f7
      go_wp2_with (first | (refine wpList_load_row rfl X17 _ rfl w.heap.size rfl X17 _ (0, 0) _ HX4.out.x Tryz.underlying51 rfl info_X17 ?_) | (refine wpList_store_row rfl X17 _ _ rfl (w.heap.size + 1) (xuV { s with lost := false } iv ov) rfl rfl X17 _ HX4.out.r info_X17 rfl (xuV_one _ HI.out.one HO.out.one) ?_))
      exact bodyPost_ret (results_cbbU X17 Tryz.results34 _ _ (w.heap.size + 1) _ _ _ rfl rfl rfl HX3.out.ret) rfl ⟨_, _, rfl, ⟨HI.out.low HX3.out.bel, HO.out.low HX3.out.bel, HX3.out.bel⟩⟩
  · skip
    rw [if_pos (by simpa using hq)]
    have e0 : decide (0 < s.q.length) = true := by have := mt List.length_eq_zero_iff.1 hq; simp only [decide_eq_true_eq]; omega
    clear hq
    rcases hlf with hf | hf
    · rw [if_neg (by rw [hf]; simp), Int.add_zero]
      have HF := Lib.hid hf
      clear hf
      go_enter Tryz.func34, Tryz.ntmps34
      go_upto_region 1 with fail
      generalize (w.alloc (Obj.cells (xuV s iv ov) X17)).alloc (Obj.cells (xuV Ut.zero (.slice none 0 0) (.slice none 0 0)) X17) = w1 at *
      have c1 := HX.out.cells.2.1
      go_wp2_with fail
      refine (H7.out _).mono ?_
      rintro e w2 ⟨rfl, rfl⟩
      clear c1 H7
      have c9 := HX.out.cells.2.2.2.2.2.2.2.2.2.1
      rw [HIV.out] at c9
      have c7 := HX.out.cells.2.2.2.2.2.2.2.1
      rw [HF.out] at c7
      have f7 := HX.out.x.frozen 7
      have HX4 := Lib.hid (HX.out.upd (i := 7) (v := .bool false) (u := { s with lost := false }) (kv := iv) (lv := ov) rfl)
      have HX3 := Lib.hid (HX4.out.res { s with lost := false } iv ov)
      clear HX HIV
      go_upto_region 33 with fail
      generalize w2.setCell ⟨w.heap.size, 7, none⟩ (.bool false) = w4 at *
      clear c7 c9 f7
      go_wp2_with (first | (refine wpList_load_row rfl X17 _ rfl w.heap.size rfl X17 _ (0, 0) _ HX4.out.x Tryz.underlying51 rfl info_X17 ?_) | (refine wpList_store_row rfl X17 _ _ rfl (w.heap.size + 1) (xuV { s with lost := false } iv ov) rfl rfl X17 _ HX4.out.r info_X17 rfl (xuV_one _ HI.out.one HO.out.one) ?_))
      exact bodyPost_ret (results_cbbU X17 Tryz.results34 _ _ (w.heap.size + 1) _ _ _ rfl rfl rfl HX3.out.ret) rfl ⟨_, _, rfl, ⟨HI.out.low HX3.out.bel, HO.out.low HX3.out.bel, HX3.out.bel⟩⟩
    · rw [if_pos hf]
      have HF := Lib.hid hf
      clear hf
      go_enter Tryz.func34, Tryz.ntmps34
      go_upto_region 1 with fail
      generalize (w.alloc (Obj.cells (xuV s iv ov) X17)).alloc (Obj.cells (xuV Ut.zero (.slice none 0 0) (.slice none 0 0)) X17) = w1 at *
      have c1 := HX.out.cells.2.1
      go_wp2_with fail
      refine (H7.out _).mono ?_
      rintro e w2 ⟨rfl, rfl⟩
      clear c1 H7
      have c9 := HX.out.cells.2.2.2.2.2.2.2.2.2.1
      rw [HIV.out] at c9
      have c7 := HX.out.cells.2.2.2.2.2.2.2.1
      rw [HF.out] at c7
      have f7 := HX.out.x.frozen 7
      have HX4 := Lib.hid (HX.out.upd (i := 7) (v := .bool false) (u := { s with lost := false }) (kv := iv) (lv := ov) rfl)
      have HX3 := Lib.hid (HX4.out.res { s with lost := false } iv ov)
      clear HX HIV
      go_upto_region 33 with fail
      generalize w2.setCell ⟨w.heap.size, 7, none⟩ (.bool false) = w4 at *
      clear c7 c9 f7
      go_wp2_with (first | (refine wpList_load_row rfl X17 _ rfl w.heap.size rfl X17 _ (0, 0) _ HX4.out.x Tryz.underlying51 rfl info_X17 ?_) | (refine wpList_store_row rfl X17 _ _ rfl (w.heap.size + 1) (xuV { s with lost := false } iv ov) rfl rfl X17 _ HX4.out.r info_X17 rfl (xuV_one _ HI.out.one HO.out.one) ?_))
      exact bodyPost_ret (results_cbbU X17 Tryz.results34 _ _ (w.heap.size + 1) _ _ _ rfl rfl rfl HX3.out.ret) rfl ⟨_, _, rfl, ⟨HI.out.low HX3.out.bel, HO.out.low HX3.out.bel, HX3.out.bel⟩⟩
set_option maxHeartbeats 8000000 in
theorem rread6 (G : Nat → Prop) (s : Ut.S) (iv ov : Value) (w : World) (hG : ∀ k, G k → k < w.heap.size) (hi : VwG G w iv s.q) (ho : VwG G w ov s.out) (ok : Ut.Ok s) :
    Calls Tryz.prog 34 #[.agg (xuV s iv ov), .int .u64 6] w fun e w' => ∃ iv' ov', e = .returned (.tuple #[.agg (xuV (Ut.readS s 6) iv' ov'), .int .i64 (Ut.readV s 6), .bool (Ut.is 6)]) ∧ XuQ G w w' (Ut.readS s 6) iv' ov' := by
  have HX := Lib.hid (XuAt.new w s iv ov)
  have hz := zero_x17
  have HI := Lib.hid hi
  have HO := Lib.hid ho
  have HG := Lib.hid hG
  have HOK := Lib.hid ok
  have H7 := Lib.hid (rbit_c s.lcr 7 ok.lcr.1 (by have := ok.lcr.2; omega) (by omega))
  have e7 := Ut.bti_b s.lcr 7
  have hhi : Ut.bt s.lcr 7 = Ut.hi s := rfl
  rw [hhi] at e7
  clear hi ho hhi
  generalize Ut.bti s.lcr 7 = b7 at *
  rw [Ut.is_lt (by omega), Ut.read6_v, Ut.read6_s]
  have hm := HOK.out.mcr
  have H4 := Lib.hid (rbit_c s.mcr 4 hm.1 (by omega) (by omega))
  have HB0 := Lib.hid (rbit_c s.mcr 0 hm.1 (by omega) (by omega))
  have HB1 := Lib.hid (rbit_c s.mcr 1 hm.1 (by omega) (by omega))
  have HB2 := Lib.hid (rbit_c s.mcr 2 hm.1 (by omega) (by omega))
  have HB3 := Lib.hid (rbit_c s.mcr 3 hm.1 (by omega) (by omega))
  have e4 := Ut.bti_z s.mcr 4
  have r0 := Ut.bti_rng s.mcr 0
  have r1 := Ut.bti_rng s.mcr 1
  have r2 := Ut.bti_rng s.mcr 2
  have r3 := Ut.bti_rng s.mcr 3
  generalize Ut.bti s.mcr 4 = b4 at *
  cases h4 : Ut.bt s.mcr 4 with
  | false =>
    rw [h4] at e4
    rw [Ut.modem_no _ h4]
    clear h4 HB0 HB1 HB2 HB3
    go_enter Tryz.func34, Tryz.ntmps34
    go_upto_region 1 with fail
    generalize (w.alloc (Obj.cells (xuV s iv ov) X17)).alloc (Obj.cells (xuV Ut.zero (.slice none 0 0) (.slice none 0 0)) X17) = w1 at *
    have c1 := HX.out.cells.2.1
    go_wp2_with fail
    refine (H7.out _).mono ?_
    rintro e w2 ⟨rfl, rfl⟩
    clear c1 H7
    have c2 := HX.out.cells.2.2.1
    go_wp2_with fail
    refine (H4.out _).mono ?_
    rintro e w3 ⟨rfl, rfl⟩
    have HX3 := Lib.hid (HX.out.res s iv ov)
    clear c2 H4
    go_wp2_with (first | (refine wpList_load_row rfl X17 _ rfl w.heap.size rfl X17 _ (0, 0) _ HX.out.x Tryz.underlying51 rfl info_X17 ?_) | (refine wpList_store_row rfl X17 _ _ rfl (w.heap.size + 1) (xuV s iv ov) rfl rfl X17 _ HX.out.r info_X17 rfl (xuV_one _ HI.out.one HO.out.one) ?_))
    exact bodyPost_ret (results_cbbU X17 Tryz.results34 _ _ (w.heap.size + 1) _ _ _ rfl rfl rfl HX3.out.ret) rfl ⟨_, _, rfl, ⟨HI.out.low HX3.out.bel, HO.out.low HX3.out.bel, HX3.out.bel⟩⟩
  | true =>
    rw [h4] at e4
    rw [Ut.modem_yes _ h4]
    clear h4
    generalize Ut.bti s.mcr 0 = b0 at *
    generalize Ut.bti s.mcr 1 = b1 at *
    generalize Ut.bti s.mcr 2 = b2 at *
    generalize Ut.bti s.mcr 3 = b3 at *
    have t1 : IntKind.i64.wrap (16 * b1) = 16 * b1 := wrapI (by omega) (by omega)
    have t2 : IntKind.i64.wrap (32 * b0) = 32 * b0 := wrapI (by omega) (by omega)
    have t3 : IntKind.i64.wrap (16 * b1 + 32 * b0) = 16 * b1 + 32 * b0 := wrapI (by omega) (by omega)
    have t4 : IntKind.i64.wrap (64 * b2) = 64 * b2 := wrapI (by omega) (by omega)
    have t5 : IntKind.i64.wrap (16 * b1 + 32 * b0 + 64 * b2) = 16 * b1 + 32 * b0 + 64 * b2 := wrapI (by omega) (by omega)
    have t6 : IntKind.i64.wrap (128 * b3) = 128 * b3 := wrapI (by omega) (by omega)
    have t7 : IntKind.i64.wrap (16 * b1 + 32 * b0 + 64 * b2 + 128 * b3) = 16 * b1 + 32 * b0 + 64 * b2 + 128 * b3 := wrapI (by omega) (by omega)
    clear r0 r1 r2 r3
    go_enter Tryz.func34, Tryz.ntmps34
    go_upto_region 1 with fail
    generalize (w.alloc (Obj.cells (xuV s iv ov) X17)).alloc (Obj.cells (xuV Ut.zero (.slice none 0 0) (.slice none 0 0)) X17) = w1 at *
    have c1 := HX.out.cells.2.1
    go_wp2_with fail
    refine (H7.out _).mono ?_
    rintro e w2 ⟨rfl, rfl⟩
    clear c1 H7
    have c2 := HX.out.cells.2.2.1
    go_wp2_with fail
    refine (H4.out _).mono ?_
    rintro e w3 ⟨rfl, rfl⟩
    clear c2 H4
    go_upto_region 37 with fail
    have hs0 : CsAt w3.drew w.heap.size X17 (xuV s iv ov) := HX.out.x.low (below_dU (Below.refl _ _) 1)
    have HXd := Lib.hid (show XuAt w w3.drew s Ut.zero iv ov (.slice none 0 0) (.slice none 0 0) from HX.out.low (below_dU (Below.refl _ _) 1))
    refine wp_region_noPanic ?_
    refine wp_region_held (S := fun W => CsAt W w.heap.size X17 (xuV s iv ov)) (by kernel_rfl) ?_
    refine takeH (fuel := 22) (i := 0) (.agg (xuV s iv ov)) ?_ rfl (by kernel_rfl) (by kernel_rfl) (by kernel_rfl) (fun _ _ _ h => h) (by kernel_rfl) (fun W hS => exec_load_row X17 _ rfl w.heap.size rfl X17 _ _ hS Tryz.underlying51 rfl info_X17) hs0 ?_ ?_
    rotate_left 1
    · go_simp
      exact rfl
    refine takeH (fuel := 21) (i := 1) (.pointer (some ⟨w.heap.size, 2, none⟩)) ?_ rfl (by kernel_rfl) (by kernel_rfl) (by kernel_rfl) (fun _ _ _ h => h) (by kernel_rfl) (fun W hS => by go_simp) hs0 ?_ ?_
    rotate_left 1
    · go_simp
      exact rfl
    refine takeH (fuel := 20) (i := 2) (.int .i64 s.mcr) ?_ rfl (by kernel_rfl) (by kernel_rfl) (by kernel_rfl) (fun _ _ _ h => h) (by kernel_rfl) (fun W hS => by (have q := hS.cell 2; simp only [xuV, List.getElem?_toArray, List.getElem?_cons_succ, List.getElem?_cons_zero] at q; go_simp)) hs0 ?_ ?_
    rotate_left 1
    · go_simp
      exact rfl
    refine takeH (fuel := 19) (i := 5) (.pointer (some ⟨w.heap.size, 2, none⟩)) ?_ rfl (by kernel_rfl) (by kernel_rfl) (by kernel_rfl) (fun _ _ _ h => h) (by kernel_rfl) (fun W hS => by go_simp) hs0 ?_ ?_
    rotate_left 1
    · go_simp
      exact rfl
    refine takeH (fuel := 18) (i := 6) (.int .i64 s.mcr) ?_ rfl (by kernel_rfl) (by kernel_rfl) (by kernel_rfl) (fun _ _ _ h => h) (by kernel_rfl) (fun W hS => by (have q := hS.cell 2; simp only [xuV, List.getElem?_toArray, List.getElem?_cons_succ, List.getElem?_cons_zero] at q; go_simp)) hs0 ?_ ?_
    rotate_left 1
    · go_simp
      exact rfl
    refine takeH (fuel := 17) (i := 10) (.pointer (some ⟨w.heap.size, 2, none⟩)) ?_ rfl (by kernel_rfl) (by kernel_rfl) (by kernel_rfl) (fun _ _ _ h => h) (by kernel_rfl) (fun W hS => by go_simp) hs0 ?_ ?_
    rotate_left 1
    · go_simp
      exact rfl
    refine takeH (fuel := 16) (i := 11) (.int .i64 s.mcr) ?_ rfl (by kernel_rfl) (by kernel_rfl) (by kernel_rfl) (fun _ _ _ h => h) (by kernel_rfl) (fun W hS => by (have q := hS.cell 2; simp only [xuV, List.getElem?_toArray, List.getElem?_cons_succ, List.getElem?_cons_zero] at q; go_simp)) hs0 ?_ ?_
    rotate_left 1
    · go_simp
      exact rfl
    refine takeH (fuel := 15) (i := 15) (.pointer (some ⟨w.heap.size, 2, none⟩)) ?_ rfl (by kernel_rfl) (by kernel_rfl) (by kernel_rfl) (fun _ _ _ h => h) (by kernel_rfl) (fun W hS => by go_simp) hs0 ?_ ?_
    rotate_left 1
    · go_simp
      exact rfl
    refine takeH (fuel := 14) (i := 16) (.int .i64 s.mcr) ?_ rfl (by kernel_rfl) (by kernel_rfl) (by kernel_rfl) (fun _ _ _ h => h) (by kernel_rfl) (fun W hS => by (have q := hS.cell 2; simp only [xuV, List.getElem?_toArray, List.getElem?_cons_succ, List.getElem?_cons_zero] at q; go_simp)) hs0 ?_ ?_
    rotate_left 1
    · go_simp
      exact rfl
    refine wpAnyH_all (fuel := 13) (rs := [3]) (by kernel_rfl) (by decide) ?_
    intro i hi
    obtain rfl : i = 3 := by simpa using hi
    refine wpOp_callX 71 #[.int .i64 s.mcr, .int .i64 1] rfl (by kernel_rfl) (by go_simp) ?_
    refine (HB1.out _).mono ?_
    rintro e w4 ⟨rfl, rfl⟩
    refine ⟨_, rfl, hs0, ?_⟩
    refine takeH (fuel := 12) (i := 4) (.int .i64 (16 * b1)) ?_ rfl (by kernel_rfl) (by kernel_rfl) (by kernel_rfl) (fun _ _ _ h => h) (by kernel_rfl) (fun W hS => by go_simp) hs0 ?_ ?_
    rotate_left 1
    · go_simp
      exact rfl
    refine wpAnyH_all (fuel := 11) (rs := [7]) (by kernel_rfl) (by decide) ?_
    intro i hi
    obtain rfl : i = 7 := by simpa using hi
    refine wpOp_callX 71 #[.int .i64 s.mcr, .int .i64 0] rfl (by kernel_rfl) (by go_simp) ?_
    refine (HB0.out _).mono ?_
    rintro e w4 ⟨rfl, rfl⟩
    refine ⟨_, rfl, hs0, ?_⟩
    refine takeH (fuel := 10) (i := 8) (.int .i64 (32 * b0)) ?_ rfl (by kernel_rfl) (by kernel_rfl) (by kernel_rfl) (fun _ _ _ h => h) (by kernel_rfl) (fun W hS => by go_simp) hs0 ?_ ?_
    rotate_left 1
    · go_simp
      exact rfl
    refine takeH (fuel := 9) (i := 9) (.int .i64 (16 * b1 + 32 * b0)) ?_ rfl (by kernel_rfl) (by kernel_rfl) (by kernel_rfl) (fun _ _ _ h => h) (by kernel_rfl) (fun W hS => by go_simp) hs0 ?_ ?_
    rotate_left 1
    · go_simp
      exact rfl
    refine wpAnyH_all (fuel := 8) (rs := [12]) (by kernel_rfl) (by decide) ?_
    intro i hi
    obtain rfl : i = 12 := by simpa using hi
    refine wpOp_callX 71 #[.int .i64 s.mcr, .int .i64 2] rfl (by kernel_rfl) (by go_simp) ?_
    refine (HB2.out _).mono ?_
    rintro e w4 ⟨rfl, rfl⟩
    refine ⟨_, rfl, hs0, ?_⟩
    refine takeH (fuel := 7) (i := 13) (.int .i64 (64 * b2)) ?_ rfl (by kernel_rfl) (by kernel_rfl) (by kernel_rfl) (fun _ _ _ h => h) (by kernel_rfl) (fun W hS => by go_simp) hs0 ?_ ?_
    rotate_left 1
    · go_simp
      exact rfl
    refine takeH (fuel := 6) (i := 14) (.int .i64 (16 * b1 + 32 * b0 + 64 * b2)) ?_ rfl (by kernel_rfl) (by kernel_rfl) (by kernel_rfl) (fun _ _ _ h => h) (by kernel_rfl) (fun W hS => by go_simp) hs0 ?_ ?_
    rotate_left 1
    · go_simp
      exact rfl
    refine wpAnyH_all (fuel := 5) (rs := [17]) (by kernel_rfl) (by decide) ?_
    intro i hi
    obtain rfl : i = 17 := by simpa using hi
    refine wpOp_callX 71 #[.int .i64 s.mcr, .int .i64 3] rfl (by kernel_rfl) (by go_simp) ?_
    refine (HB3.out _).mono ?_
    rintro e w4 ⟨rfl, rfl⟩
    refine ⟨_, rfl, hs0, ?_⟩
    refine takeH (fuel := 4) (i := 18) (.int .i64 (128 * b3)) ?_ rfl (by kernel_rfl) (by kernel_rfl) (by kernel_rfl) (fun _ _ _ h => h) (by kernel_rfl) (fun W hS => by go_simp) hs0 ?_ ?_
    rotate_left 1
    · go_simp
      exact rfl
    refine takeH (fuel := 3) (i := 19) (.int .i64 (16 * b1 + 32 * b0 + 64 * b2 + 128 * b3)) ?_ rfl (by kernel_rfl) (by kernel_rfl) (by kernel_rfl) (fun _ _ _ h => h) (by kernel_rfl) (fun W hS => by go_simp) hs0 ?_ ?_
    rotate_left 1
    · go_simp
      exact rfl
    refine wpAnyH_all (fuel := 2) (rs := [20]) (by kernel_rfl) (by decide) ?_
    intro i hi
    obtain rfl : i = 20 := by simpa using hi
    refine wpOp_unitB (w3.drew.setRow (w.heap.size + 1) (xuV s iv ov)) _ rfl (by kernel_rfl) (exec_store_row X17 _ _ rfl (w.heap.size + 1) (xuV s iv ov) rfl rfl X17 _ HXd.out.r info_X17 rfl (xuV_one _ HI.out.one HO.out.one)) rfl ?_
    have HX3 := Lib.hid (HXd.out.res s iv ov)
    have hs1 := HX3.out.x
    refine ⟨hs1, ?_⟩
    refine takeH (fuel := 1) (i := 21) (.int .i64 (16 * b1 + 32 * b0 + 64 * b2 + 128 * b3)) ?_ rfl (by kernel_rfl) (by kernel_rfl) (by kernel_rfl) (fun _ _ _ h => h) (by kernel_rfl) (fun W hS => by go_simp) hs1 ?_ ?_
    rotate_left 1
    · go_simp
      exact rfl
    refine takeH (fuel := 0) (i := 22) (.bool true) ?_ rfl (by kernel_rfl) (by kernel_rfl) (by kernel_rfl) (fun _ _ _ h => h) (by kernel_rfl) (fun W hS => by go_simp) hs1 ?_ ?_
    rotate_left 1
    · go_simp
      exact rfl
    refine wpAnyH_done (by kernel_rfl) ?_ _
    refine NoPanic.normal ?_
    clear hs0 hs1 HX
    generalize w3.drew.setRow (w.heap.size + 1) (xuV s iv ov) = w9 at *
    go_wp2_with fail
    exact bodyPost_ret (results_cbbU X17 Tryz.results34 _ _ (w.heap.size + 1) _ _ _ rfl rfl rfl HX3.out.ret) rfl ⟨_, _, rfl, ⟨HI.out.low HX3.out.bel, HO.out.low HX3.out.bel, HX3.out.bel⟩⟩
theorem rread_c (G : Nat → Prop) (s : Ut.S) (iv ov : Value) (off : Int) (o0 : 0 ≤ off) (w : World) (hG : ∀ k, G k → k < w.heap.size) (hi : VwG G w iv s.q) (ho : VwG G w ov s.out) (ok : Ut.Ok s) :
    Calls Tryz.prog 34 #[.agg (xuV s iv ov), .int .u64 off] w fun e w' => ∃ iv' ov', e = .returned (.tuple #[.agg (xuV (Ut.readS s off) iv' ov'), .int .i64 (Ut.readV s off), .bool (Ut.is off)]) ∧ XuQ G w w' (Ut.readS s off) iv' ov' := by
  by_cases hf : 8 ≤ off
  · exact rread_far G s iv ov off w hG hi ho ok hf
  · obtain rfl | rfl | rfl | rfl | rfl | rfl | rfl | rfl : off = 0 ∨ off = 1 ∨ off = 2 ∨ off = 3 ∨ off = 4 ∨ off = 5 ∨ off = 6 ∨ off = 7 := by omega
    · cases hl : Ut.hi s with
      | true => exact rread0h G s iv ov w hG hi ho ok hl
      | false =>
        cases hq : s.q with
        | nil => exact rread0n G s iv ov w hG hi ho ok hl hq
        | cons x xs => exact rread0c G s iv ov w hG hi ho ok hl x xs hq
    · exact rread1 G s iv ov w hG hi ho ok
    · exact rread2 G s iv ov w hG hi ho ok
    · exact rread3 G s iv ov w hG hi ho ok
    · exact rread4 G s iv ov w hG hi ho ok
    · exact rread5 G s iv ov w hG hi ho ok
    · exact rread6 G s iv ov w hG hi ho ok
    · exact rread7 G s iv ov w hG hi ho ok
end Go.Proofs.YtfjdalepaacmgaaGreat
