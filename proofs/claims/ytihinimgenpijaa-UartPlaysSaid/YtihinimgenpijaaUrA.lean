/-
  The reference of layer 17: its value; contracts of bit, Bytes, come, Cause, Input.
-/
import Derived.Test.YtihinimgenpijaaUtI
set_option maxRecDepth 20000
namespace Go.Proofs.Ytihinimgenpijaa
open Go.ChangeShapes Go.WideShapes Go.ChangeAt Go.RowKit

abbrev X17 : TypeId := 32
def xuV (s : Ut.S) (iv ov : Value) : Array Value := #[.int .i64 s.ier, .int .i64 s.lcr, .int .i64 s.mcr, .int .i64 s.scr, .int .i64 s.dll, .int .i64 s.dlm, .bool s.fifo, .bool s.lost, .bool s.empty, iv, ov]
theorem info_X17 : (Try.prog.info? X17).map (·.size) = some 11 := by kernel_rfl
theorem zero_x17 (W : World) : (zeroValue X17).run Try.prog W = .ok (.agg (xuV Ut.zero (.slice none 0 0) (.slice none 0 0))) W := by kernel_rfl
/-- A slice of bytes that can be read, in none of the blocks of G. -/
def VwG (G : Nat → Prop) (w : World) (v : Value) (xs : List Int) : Prop :=
  ∃ p cap, v = .slice p xs.length cap ∧ xs.length ≤ cap ∧ (p = none ∧ cap = 0 ∨ ∃ b off, p = some ⟨b, off, none⟩ ∧ b < w.heap.size ∧ ¬ G b) ∧ ∀ b off, p = some ⟨b, off, none⟩ → ∀ j, j < xs.length → w.cell? ⟨b, off + j, none⟩ = some (.int .u8 (xs.getD j 0))
section
variable {G H : Nat → Prop} {w w' : World} {v : Value} {xs : List Int}
theorem VwG.keep (h : VwG G w v xs) (hc : Chg G w w') : VwG G w' v xs := by
  obtain ⟨p, cap, rfl, hcap, h1, h2⟩ := h
  refine ⟨p, cap, rfl, hcap, h1.imp id (fun ⟨b, off, e, hl, hn⟩ => ⟨b, off, e, Nat.lt_of_lt_of_le hl hc.size, hn⟩), fun b off e j hj => ?_⟩
  rcases h1 with h1 | ⟨b', off', e', hl, hn⟩
  · rw [h1.1] at e; cases e
  · rw [e'] at e
    cases e
    exact hc.cell (h2 b off e' j hj) hn
theorem VwG.low (h : VwG G w v xs) (hb : Below w.heap.size w w') : VwG G w' v xs := h.keep (Chg.of_below hb)
/-- The blocks that are none of it may be others, as long as they are new. -/
theorem VwG.more (h : VwG G w v xs) (hH : ∀ k, H k → G k ∨ w.heap.size ≤ k) : VwG H w v xs := by
  obtain ⟨p, cap, rfl, hcap, h1, h2⟩ := h
  exact ⟨p, cap, rfl, hcap, h1.imp id (fun ⟨b, off, e, hl, hn⟩ => ⟨b, off, e, hl, fun c => (hH b c).elim hn (fun c2 => by omega)⟩), h2⟩
theorem VwG.b (h : VwG G w v xs) : VwB w v xs := by
  obtain ⟨p, cap, rfl, hcap, h1, h2⟩ := h
  refine ⟨p, cap, rfl, ?_⟩
  rcases h1 with ⟨rfl, rfl⟩ | ⟨b, off, rfl, hl, -⟩
  · exact .inl (List.length_eq_zero_iff.1 (by omega))
  · exact .inr ⟨b, off, rfl, hl, h2 b off rfl⟩
theorem VwG.nil (G : Nat → Prop) (w : World) : VwG G w (.slice none 0 0) [] := ⟨none, 0, rfl, Nat.le_refl _, .inl ⟨rfl, rfl⟩, fun b off e => by cases e⟩
/-- One that was made in a later world. -/
theorem own_vwG {N : Nat} {e : TypeId} (h : w.ownsRow N e 1 v xs.length (u8V xs)) (hG : ∀ k, G k → k < N) : VwG G w v xs := by
  rcases h.2 with ⟨rfl, h0⟩ | ⟨g, cap, cur, rfl, hb, hg, hc, -⟩
  · obtain rfl : xs = [] := List.length_eq_zero_iff.1 h0
    exact VwG.nil G w
  · refine ⟨_, cap, rfl, hc, .inr ⟨g, 0, rfl, (Array.getElem?_eq_some_iff.1 hg).1, fun c => by have := hG g c; omega⟩, fun b off e j hj => ?_⟩
    cases e
    have := h.cellAt j (by omega)
    rw [Nat.zero_add, this, u8V_at xs j hj]
theorem VwG.form (h : VwG G w v xs) : ∃ p cap, v = .slice p xs.length cap ∧ Vw w p (u8V xs) ∧ (p = none ∧ cap = 0 ∨ ∃ b off, p = some ⟨b, off, none⟩) := by
  have hb := h.b
  obtain ⟨p, cap, rfl, hcap, h1, h2⟩ := h
  exact ⟨p, cap, rfl, hb.vw, h1.imp id (fun ⟨b, off, e, _, _⟩ => ⟨b, off, e⟩)⟩
end
theorem VwG.one {G : Nat → Prop} {w : World} {v : Value} {xs : List Int} (h : VwG G w v xs) : v.oneCell' = true := by
  obtain ⟨p, cap, rfl, -⟩ := h
  rfl
theorem xuV_one (s : Ut.S) {iv ov : Value} (hi : iv.oneCell' = true) (ho : ov.oneCell' = true) : (xuV s iv ov).all (·.oneCell') = true := by
  rw [Array.all_eq_true_iff_forall_mem]
  intro v hv
  simp only [xuV, List.mem_toArray, List.mem_cons, List.not_mem_nil, or_false] at hv
  rcases hv with rfl | rfl | rfl | rfl | rfl | rfl | rfl | rfl | rfl | rfl | rfl
  all_goals first | rfl | exact hi | exact ho
/-- The first two blocks of a call: the parameter, the result. -/
structure XuAt (w W : World) (s t : Ut.S) (iv ov jv qv : Value) : Prop where
  x : CsAt W w.heap.size X17 (xuV s iv ov)
  r : CsAt W (w.heap.size + 1) X17 (xuV t jv qv)
  bel : Below w.heap.size w W
section
variable {w W W' : World} {s t u : Ut.S} {iv ov jv qv kv lv : Value}
theorem XuAt.new (w : World) (s : Ut.S) (iv ov : Value) : XuAt w ((w.alloc (.cells (xuV s iv ov) X17)).alloc (.cells (xuV Ut.zero (.slice none 0 0) (.slice none 0 0)) X17)) s Ut.zero iv ov (.slice none 0 0) (.slice none 0 0) := by
  have e : (w.alloc (.cells (xuV s iv ov) X17)).heap.size = w.heap.size + 1 := by simp
  refine ⟨(CsAt.new w X17 _).alloc _, ?_, ((Below.refl _ _).alloc (Nat.le_refl _) _).alloc (by simp) _⟩
  have := CsAt.new (w.alloc (.cells (xuV s iv ov) X17)) X17 (xuV Ut.zero (.slice none 0 0) (.slice none 0 0))
  rwa [e] at this
theorem XuAt.low (h : XuAt w W s t iv ov jv qv) (hb : Below W.heap.size W W') : XuAt w W' s t iv ov jv qv := ⟨h.x.low hb, h.r.low hb, h.bel.trans (hb.mono h.bel.size)⟩
theorem XuAt.cells (h : XuAt w W s t iv ov jv qv) : W.cell? ⟨w.heap.size, 0, none⟩ = some (.int .i64 s.ier) ∧ W.cell? ⟨w.heap.size, 1, none⟩ = some (.int .i64 s.lcr) ∧ W.cell? ⟨w.heap.size, 2, none⟩ = some (.int .i64 s.mcr) ∧ W.cell? ⟨w.heap.size, 3, none⟩ = some (.int .i64 s.scr) ∧
    W.cell? ⟨w.heap.size, 4, none⟩ = some (.int .i64 s.dll) ∧ W.cell? ⟨w.heap.size, 5, none⟩ = some (.int .i64 s.dlm) ∧ W.cell? ⟨w.heap.size, 6, none⟩ = some (.bool s.fifo) ∧ W.cell? ⟨w.heap.size, 7, none⟩ = some (.bool s.lost) ∧ W.cell? ⟨w.heap.size, 8, none⟩ = some (.bool s.empty) ∧
    W.cell? ⟨w.heap.size, 9, none⟩ = some iv ∧ W.cell? ⟨w.heap.size, 10, none⟩ = some ov :=
  ⟨h.x.cell 0, h.x.cell 1, h.x.cell 2, h.x.cell 3, h.x.cell 4, h.x.cell 5, h.x.cell 6, h.x.cell 7, h.x.cell 8, h.x.cell 9, h.x.cell 10⟩
/-- A cell of the parameter is stored. -/
theorem XuAt.upd (h : XuAt w W s t iv ov jv qv) {i : Nat} {v : Value} (e : (xuV s iv ov).setIfInBounds i v = xuV u kv lv) : XuAt w (W.setCell ⟨w.heap.size, i, none⟩ v) u t kv lv jv qv :=
  ⟨by unfold CsAt; rw [heap_setCell_same W _ i _ X17 _ h.x, e], h.r.far (by omega) _, h.bel.setCell (p := ⟨w.heap.size, i, none⟩) (Nat.le_refl _) _⟩
/-- The whole parameter is stored. -/
theorem XuAt.all (h : XuAt w W s t iv ov jv qv) (u : Ut.S) (kv lv : Value) : XuAt w (W.setRow w.heap.size (xuV u kv lv)) u t kv lv jv qv :=
  ⟨h.x.row _, h.r.rowFar (by omega) _, below_setRow h.bel (Nat.le_refl _) _⟩
theorem XuAt.res (h : XuAt w W s t iv ov jv qv) (u : Ut.S) (kv lv : Value) : XuAt w (W.setRow (w.heap.size + 1) (xuV u kv lv)) s u iv ov kv lv :=
  ⟨h.x.rowFar (by omega) _, h.r.row _, below_setRow h.bel (by omega) _⟩
end
theorem results_cbU {F : Func} {x y : Tmp} (ty : TypeId) (hF : F.results = #[.cell x ty, .tmp y]) (tmps : Array Value) (w : World) (b : Nat) (cs : Array Value) (r : Value) (h2 : tmps.getD x undef = .pointer (some ⟨b, 0, none⟩)) (h3 : tmps.getD y undef = r)
    (hl : (loadVar ty ⟨b, 0, none⟩).run Try.prog w = .ok (.agg cs) w) : (results F tmps).run Try.prog w = .ok (.tuple #[.agg cs, r]) w := by
  have h2' : tmps[x]?.getD undef = .pointer (some ⟨b, 0, none⟩) := by simpa using h2
  have h3' : tmps[y]?.getD undef = r := by simpa using h3
  simp [results, hF, h2', h3', asAddr, hl]
theorem results_cbbU {F : Func} {x y z : Tmp} (ty : TypeId) (hF : F.results = #[.cell x ty, .tmp y, .tmp z]) (tmps : Array Value) (w : World) (b : Nat) (cs : Array Value) (r u : Value) (h2 : tmps.getD x undef = .pointer (some ⟨b, 0, none⟩)) (h3 : tmps.getD y undef = r) (h4 : tmps.getD z undef = u)
    (hl : (loadVar ty ⟨b, 0, none⟩).run Try.prog w = .ok (.agg cs) w) : (results F tmps).run Try.prog w = .ok (.tuple #[.agg cs, r, u]) w := by
  have h2' : tmps[x]?.getD undef = .pointer (some ⟨b, 0, none⟩) := by simpa using h2
  have h3' : tmps[y]?.getD undef = r := by simpa using h3
  have h4' : tmps[z]?.getD undef = u := by simpa using h4
  simp [results, hF, h2', h3', h4', asAddr, hl]
theorem XuAt.ret {w W : World} {s t : Ut.S} {iv ov jv qv : Value} (h : XuAt w W s t iv ov jv qv) : (loadVar X17 ⟨w.heap.size + 1, 0, none⟩).run Try.prog W = .ok (.agg (xuV t jv qv)) W :=
  run_loadVar_row _ _ X17 X17 _ (0, 0) _ h.r Try.underlying32 rfl info_X17
namespace Ut
def bti (x : Int) (i : Nat) : Int := x / 2 ^ i % 2
theorem bti_0 {x : Int} {i : Nat} (h : bt x i = true) : bti x i = 1 := by unfold bt at h; simpa [bti] using h
theorem bti_n {x : Int} {i : Nat} (h : bt x i = false) : bti x i = 0 := by
  unfold bt at h
  simp only [decide_eq_false_iff_not] at h
  unfold bti
  omega
theorem bti_b (x : Int) (i : Nat) : (bti x i == 1) = bt x i := by
  unfold bti bt
  rw [Bool.eq_iff_iff]
  simp
theorem bti_z (x : Int) (i : Nat) : (bti x i == 0) = !bt x i := by
  unfold bti bt
  rw [Bool.eq_iff_iff]
  simp
  omega
theorem div_next (x : Int) (k : Nat) : x / 2 ^ k / 2 = x / 2 ^ (k + 1) := by
  rw [Int.pow_succ, ← Int.ediv_ediv_of_nonneg (Int.pow_nonneg (by omega))]
theorem div_rng {x : Int} (h0 : 0 ≤ x) (h1 : x ≤ 9223372036854775807) (k : Nat) : 0 ≤ x / 2 ^ k ∧ x / 2 ^ k ≤ 9223372036854775807 := by
  have hp : (0 : Int) < 2 ^ k := Int.pow_pos (by omega)
  exact ⟨Int.ediv_nonneg h0 (by omega), Int.le_trans (Int.ediv_le_self _ h0) h1⟩
end Ut
set_option maxHeartbeats 4000000 in
theorem rbit_c (x : Int) (i : Nat) (h0 : 0 ≤ x) (h1 : x ≤ 9223372036854775807) (hi : i < 64) (w : World) : Calls Try.prog 68 #[.int .i64 x, .int .i64 i] w fun e w' => e = .returned (.int .i64 (Ut.bti x i)) ∧ w' = w := by
  go_enter Try.func68, Try.ntmps68
  go_wp2_with fail
  go_loopw [0, 5] (fun n k wr => ∃ j : Nat, j ≤ i ∧ k = .int .i64 j ∧ n = .int .i64 (x / 2 ^ j) ∧ wr = w) (fun _ k _ => i - (intOf k).toNat)
  case atStart => exact ⟨0, by omega, rfl, by simp, rfl⟩
  case round =>
    obtain ⟨j, hj, rfl, rfl, rfl⟩ := hrel
    have HN := Lib.hid (Ut.div_next x j)
    have hr := Ut.div_rng h0 h1 j
    have HE := Lib.hid (show Ut.bti x j = x / 2 ^ j % 2 from rfl)
    generalize x / 2 ^ j = y at *
    by_cases hlt : j < i
    · have e0 : decide ((j : Int) < (i : Int)) = true := by simp; omega
      clear h0 h1
      go_wp2_with fail
      go_roundw
      case rel => exact ⟨j + 1, by omega, by go_num, by rw [← HN.out], trivial⟩
      case measure => simp [intOf]; omega
    · have e0 : decide ((j : Int) < (i : Int)) = false := by simp; omega
      obtain rfl : j = i := by omega
      clear h0 h1
      go_wp2_with fail
      go_ret
      exact ⟨by rw [HE.out]; rfl, rfl⟩
set_option maxHeartbeats 4000000 in
theorem rbytes_c (u v : Value) (xs ys : List Int) (w : World) (hu : VwB w u xs) (hv : VwB w v ys) (hl : xs.length ≤ 1000000) :
    Calls Try.prog 22 #[u, v] w fun e w' => e = .returned (.bool (eqB xs ys)) ∧ Below w.heap.size w w' := by
  obtain ⟨p, cp, rfl, hu⟩ := hu
  obtain ⟨q, cq, rfl, hv⟩ := hv
  by_cases hn : xs.length = ys.length
  · have HP := Lib.hid hu
    have HQ := Lib.hid hv
    have HN := Lib.hid hn
    rw [← hn] at HQ ⊢
    clear hu hv hn
    go_enter Try.func22, Try.ntmps22
    go_wp2_with fail
    go_loopw [5] (fun i wr => ∃ k : Nat, k ≤ xs.length ∧ i = .int .i64 k ∧ (∀ j, j < k → xs.getD j 0 = ys.getD j 0) ∧ Below w.heap.size w wr) (fun i _ => xs.length - (intOf i).toNat)
    case atStart => exact ⟨0, Nat.zero_le _, rfl, fun j hj => by omega, Below.refl _ _⟩
    case round =>
      obtain ⟨k, hk, rfl, hd, hb⟩ := hrel
      have HD := Lib.hid hd
      have HB := Lib.hid hb
      clear hd hb
      by_cases hlt : k < xs.length
      · have hne : ¬ xs = [] := fun e => by rw [e] at hlt; simp at hlt
        have hne2 : ¬ ys = [] := fun e => by have h := HN.out; have h2 := congrArg List.length e; simp only [List.length_nil] at h2; omega
        obtain ⟨b, o, rfl, hbl, hc⟩ := HP.out.resolve_left hne
        obtain ⟨b2, o2, rfl, hbl2, hc2⟩ := HQ.out.resolve_left hne2
        have c1 := (HB.out.cell (p := ⟨b, o + k, none⟩) hbl).trans (hc k hlt)
        have c2 := (HB.out.cell (p := ⟨b2, o2 + k, none⟩) hbl2).trans (hc2 k hlt)
        have g1 : (k : Int) < (xs.length : Int) := by omega
        have HD2 := Lib.hid (fun (e : xs.getD k 0 = ys.getD k 0) => show ∀ j, j < k + 1 → xs.getD j 0 = ys.getD j 0 from fun j hj => by
          by_cases ej : j = k
          · subst ej; exact e
          · exact HD.out j (by omega))
        clear hc hc2 hne hne2
        by_cases he : xs.getD k 0 = ys.getD k 0
        · have HD3 := Lib.hid (HD2.out he)
          have ge : (xs.getD k 0 != ys.getD k 0) = false := by simp; exact he
          generalize xs.getD k 0 = x at *
          generalize ys.getD k 0 = y at *
          clear HD HD2 he
          go_wp2_with fail
          go_quiet (fail)
          have HB3 := Lib.hid (below_dU HB.out nq)
          go_wp2_with fail
          go_roundw
          case rel => exact ⟨k + 1, by omega, by go_num, HD3.out, HB3.out⟩
          case measure => simp [intOf]; omega
        · have HE := Lib.hid (eqB_no he)
          have ge : (xs.getD k 0 != ys.getD k 0) = true := by simp; exact he
          generalize xs.getD k 0 = x at *
          generalize ys.getD k 0 = y at *
          clear HD HD2 he
          go_wp2_with fail
          go_quiet (fail)
          have HB3 := Lib.hid (below_dU HB.out nq)
          go_wp2_with fail
          go_ret
          exact ⟨by rw [HE.out]; rfl, HB3.out⟩
      · have HE := Lib.hid (eqB_yes HN.out (fun i hi => HD.out i (by omega)))
        have g1 : decide ((k : Int) < (xs.length : Int)) = false := by simp; omega
        clear HD
        go_wp2_with fail
        go_ret
        exact ⟨by rw [HE.out]; rfl, HB.out⟩
  · have HE := Lib.hid (eqB_len hn)
    rw [HE.out]
    have g0 : ((xs.length : Int) != (ys.length : Int)) = true := by simp; omega
    clear hu hv hn
    go_enter Try.func22, Try.ntmps22
    go_wp2_with fail
    go_ret
    exact ⟨rfl, Below.refl _ _⟩
/-- What a call of the reference leaves: a value, in new memory. -/
structure XuQ (G : Nat → Prop) (w W : World) (s : Ut.S) (iv ov : Value) : Prop where
  i : VwG G W iv s.q
  o : VwG G W ov s.out
  bel : Below w.heap.size w W
theorem wrap_u8 {x : Int} (h : Ut.isB x) : IntKind.u8.wrap x = x := by rw [IntKind.wrap_u8]; have := h.1; have := h.2; omega

set_option maxHeartbeats 8000000 in
theorem rcome_c (G : Nat → Prop) (s : Ut.S) (iv ov : Value) (x : Int) (hx : Ut.isB x) (w : World) (hG : ∀ k, G k → k < w.heap.size) (hi : VwG G w iv s.q) (ho : VwG G w ov s.out) (ok : Ut.Ok s) :
    Calls Try.prog 69 #[.agg (xuV s iv ov), .int .i64 x] w fun e w' => ∃ iv' ov', e = .returned (.tuple #[.agg (xuV (Ut.comeS s x) iv' ov'), .bool (Ut.comeB s)]) ∧ XuQ G w w' (Ut.comeS s x) iv' ov' := by
  have HX := Lib.hid (XuAt.new w s iv ov)
  have hz := zero_x17
  have hqn := ok.qn
  obtain ⟨p, cap, rfl, hV, hpn⟩ := hi.form
  have HI := Lib.hid hi
  have HO := Lib.hid ho
  have HV := Lib.hid hV
  have HG := Lib.hid hG
  have e8 := wrap_u8 hx
  clear hi ho hV
  by_cases hfull : Ut.room s ≤ s.q.length
  · have HS := Lib.hid (show Ut.comeS s x = { s with lost := true } by unfold Ut.comeS; rw [if_pos hfull])
    have HB := Lib.hid (show Ut.comeB s = false by unfold Ut.comeB; simp; omega)
    rw [HB.out, HS.out]
    obtain hf | hf : s.fifo = false ∨ s.fifo = true := by cases s.fifo <;> simp
    · skip
      have hr : Ut.room s = 1 := by unfold Ut.room; rw [hf]; rfl
      rw [hr] at hfull
      have e0 : decide ((s.q.length : Int) ≥ 1) = true := by simp only [decide_eq_true_eq]; omega
      have e1 : decide (s.q.length ≥ 1) = true := by simp only [decide_eq_true_eq]; omega
      clear hfull hr
      go_enter Try.func69, Try.ntmps69
      go_upto_region 1 with fail
      generalize (w.alloc (Obj.cells (xuV s (.slice p s.q.length cap) ov) X17)).alloc (Obj.cells (xuV Ut.zero (.slice none 0 0) (.slice none 0 0)) X17) = w1 at *
      obtain ⟨-, -, -, -, -, -, c6, c7, -, c9, -⟩ := HX.out.cells
      rw [hf] at c6
      have f7 := HX.out.x.frozen 7
      have f9 := HX.out.x.frozen 9
      have HX2 := Lib.hid (HX.out.upd (i := 7) (v := .bool true) (u := { s with lost := true }) (kv := .slice p s.q.length cap) (lv := ov) rfl)
      have HX3 := Lib.hid (HX2.out.res { s with lost := true } (.slice p s.q.length cap) ov)
      clear HX hf
      go_upto_region 6 with fail
      generalize w1.setCell ⟨w.heap.size, 7, none⟩ (.bool true) = w2 at *
      clear c6 c7 c9 f7 f9
      go_wp2_with (first | (refine wpList_load_row rfl X17 _ rfl w.heap.size rfl X17 _ (0, 0) _ HX2.out.x Try.underlying32 rfl info_X17 ?_) | (refine wpList_store_row rfl X17 _ _ rfl (w.heap.size + 1) (xuV { s with lost := true } (.slice p s.q.length cap) ov) rfl rfl X17 _ HX2.out.r info_X17 rfl (xuV_one _ rfl HO.out.one) ?_))
      exact bodyPost_ret (results_cbU X17 Try.results69 _ _ (w.heap.size + 1) _ _ rfl rfl HX3.out.ret) rfl ⟨_, _, rfl, ⟨HI.out.low HX3.out.bel, HO.out.low HX3.out.bel, HX3.out.bel⟩⟩
    · skip
      have hr : Ut.room s = 16 := by unfold Ut.room; rw [hf]; rfl
      rw [hr] at hfull
      have e0 : decide ((s.q.length : Int) ≥ 16) = true := by simp only [decide_eq_true_eq]; omega
      have e1 : decide (s.q.length ≥ 16) = true := by simp only [decide_eq_true_eq]; omega
      clear hfull hr
      go_enter Try.func69, Try.ntmps69
      go_upto_region 1 with fail
      generalize (w.alloc (Obj.cells (xuV s (.slice p s.q.length cap) ov) X17)).alloc (Obj.cells (xuV Ut.zero (.slice none 0 0) (.slice none 0 0)) X17) = w1 at *
      obtain ⟨-, -, -, -, -, -, c6, c7, -, c9, -⟩ := HX.out.cells
      rw [hf] at c6
      have f7 := HX.out.x.frozen 7
      have f9 := HX.out.x.frozen 9
      have HX2 := Lib.hid (HX.out.upd (i := 7) (v := .bool true) (u := { s with lost := true }) (kv := .slice p s.q.length cap) (lv := ov) rfl)
      have HX3 := Lib.hid (HX2.out.res { s with lost := true } (.slice p s.q.length cap) ov)
      clear HX hf
      go_upto_region 6 with fail
      generalize w1.setCell ⟨w.heap.size, 7, none⟩ (.bool true) = w2 at *
      clear c6 c7 c9 f7 f9
      go_wp2_with (first | (refine wpList_load_row rfl X17 _ rfl w.heap.size rfl X17 _ (0, 0) _ HX2.out.x Try.underlying32 rfl info_X17 ?_) | (refine wpList_store_row rfl X17 _ _ rfl (w.heap.size + 1) (xuV { s with lost := true } (.slice p s.q.length cap) ov) rfl rfl X17 _ HX2.out.r info_X17 rfl (xuV_one _ rfl HO.out.one) ?_))
      exact bodyPost_ret (results_cbU X17 Try.results69 _ _ (w.heap.size + 1) _ _ rfl rfl HX3.out.ret) rfl ⟨_, _, rfl, ⟨HI.out.low HX3.out.bel, HO.out.low HX3.out.bel, HX3.out.bel⟩⟩
  · have HS := Lib.hid (show Ut.comeS s x = { s with q := s.q ++ [x] } by unfold Ut.comeS; rw [if_neg hfull])
    have HB := Lib.hid (show Ut.comeB s = true by unfold Ut.comeB; simp; omega)
    rw [HB.out, HS.out]
    obtain hf | hf : s.fifo = false ∨ s.fifo = true := by cases s.fifo <;> simp
    · skip
      have hr : Ut.room s = 1 := by unfold Ut.room; rw [hf]; rfl
      rw [hr] at hfull
      have e0 : decide ((s.q.length : Int) ≥ 1) = false := by simp only [decide_eq_false_iff_not]; omega
      have e1 : decide (s.q.length ≥ 1) = false := by simp only [decide_eq_false_iff_not]; omega
      clear hfull hr
      go_enter Try.func69, Try.ntmps69
      go_upto_region 1 with fail
      generalize (w.alloc (Obj.cells (xuV s (.slice p s.q.length cap) ov) X17)).alloc (Obj.cells (xuV Ut.zero (.slice none 0 0) (.slice none 0 0)) X17) = w1 at *
      obtain ⟨-, -, -, -, -, -, c6, c7, -, c9, -⟩ := HX.out.cells
      rw [hf] at c6
      have f7 := HX.out.x.frozen 7
      have f9 := HX.out.x.frozen 9
      clear hf
      have hb1 := HX.out.bel
      have hE : (w1.alloc (.cells #[] U8)).ownsRow w1.heap.size U8 1 (.slice (some ⟨w1.heap.size, 0, none⟩) 0 0) 0 [] := ⟨rfl, .inr ⟨w1.heap.size, 0, #[], rfl, Nat.le_refl _, CsAt.new w1 U8 #[], Nat.le_refl _, Nat.zero_le _, rfl, rfl⟩⟩
      have HE := Lib.hid hE
      have HB2 := Lib.hid ((Below.refl w1.heap.size w1).alloc (Nat.le_refl _) (.cells #[] U8))
      have HV2 := Lib.hid ((HV.out.low hb1).low HB2.out)
      have HL := Lib.hid (show (u8V s.q).length = s.q.length * 1 by rw [u8V_len]; omega)
      have c9b := (HB2.out.cell (p := ⟨w.heap.size, 9, none⟩) HX.out.x.lt).trans c9
      clear hE
      go_wp2_with (at_builtin; refine wpList_cat rfl _ _ U8S rfl w1.heap.size U8 _ 1 1 Try.underlying30 info_u8 rfl (by omega) (by omega) _ 0 [] rfl HE.out _ s.q.length cap (u8V s.q) rfl HV2.out HL.out (u8V_one s.q) (by omega) HB2.out.size ?_)
      intro v2 w2 ho2 hb2
      have HO2 := Lib.hid ho2
      have HB3 := Lib.hid (HB2.out.trans hb2)
      clear ho2 hb2 c9b
      go_wp2_with (at_builtin; refine wpList_push rfl _ _ U8S rfl w1.heap.size U8 _ 1 1 Try.underlying30 info_u8 rfl (by omega) (by omega) _ s.q.length _ rfl HO2.out #[.int .u8 x] rfl (one_u8 x) _ rfl rfl (by omega) HB3.out.size ?_)
      intro v3 w3 ho3 hb3
      have hbb := HB3.out.trans hb3
      have hX3 := HX.out.low hbb
      have ho4 : w3.ownsRow w1.heap.size U8 1 v3 (s.q ++ [x]).length (u8V (s.q ++ [x])) := by simpa [u8V] using ho3
      have hvg : VwG G w3 v3 (s.q ++ [x]) := own_vwG ho4 (fun k hk => Nat.lt_of_lt_of_le (HG.out k hk) hb1.size)
      have j9 := hX3.x.cell 9
      have g9 := hX3.x.frozen 9
      simp only [xuV, List.getElem?_toArray, List.getElem?_cons_succ, List.getElem?_cons_zero] at j9
      have HX4 := Lib.hid (hX3.upd (i := 9) (v := v3) (u := { s with q := s.q ++ [x] }) (kv := v3) (lv := ov) rfl)
      have HX5 := Lib.hid (HX4.out.res { s with q := s.q ++ [x] } v3 ov)
      have HV5 := Lib.hid (hvg.low ((Below.refl w3.heap.size w3).mono (Nat.le_refl _)))
      obtain ⟨p3, cap3, hv3, -⟩ := own_form ho3
      subst hv3
      have hne := (HX.out.r).lt
      have hvg2 : VwG G ((w3.setCell ⟨w.heap.size, 9, none⟩ (.slice p3 (s.q.length + 1) cap3)).setRow (w.heap.size + 1) (xuV { s with q := s.q ++ [x] } (.slice p3 (s.q.length + 1) cap3) ov)) (.slice p3 (s.q.length + 1) cap3) (s.q ++ [x]) := by
        have hc : Chg (fun k => k = w.heap.size ∨ k = w.heap.size + 1) w3 ((w3.setCell ⟨w.heap.size, 9, none⟩ (.slice p3 (s.q.length + 1) cap3)).setRow (w.heap.size + 1) (xuV { s with q := s.q ++ [x] } (.slice p3 (s.q.length + 1) cap3) ov)) := (Chg.of_cell (.inl rfl) 9 _).trans (Chg.of_row (.inr rfl) _)
        exact own_vwG (hc.own ho4 (fun k hk => by have := (ho4.lt k hk).1; intro e; rcases e with e | e <;> omega)) (fun k hk => Nat.lt_of_lt_of_le (HG.out k hk) hb1.size)
      have HVF := Lib.hid hvg2
      clear ho3 hb3 hbb hX3 ho4 hvg hvg2 hne HB2 HB3 HE HO2 HV2 c6 c7 c9 f7 f9 hb1 HX HV5 HL
      go_upto_region 8 with fail
      generalize w3.setCell ⟨w.heap.size, 9, none⟩ (.slice p3 (s.q.length + 1) cap3) = w4 at *
      go_wp2_with (first | (refine wpList_load_row rfl X17 _ rfl w.heap.size rfl X17 _ (0, 0) _ HX4.out.x Try.underlying32 rfl info_X17 ?_) | (refine wpList_store_row rfl X17 _ _ rfl (w.heap.size + 1) (xuV { s with q := s.q ++ [x] } (.slice p3 (s.q.length + 1) cap3) ov) rfl rfl X17 _ HX4.out.r info_X17 rfl (xuV_one _ rfl HO.out.one) ?_))
      exact bodyPost_ret (results_cbU X17 Try.results69 _ _ (w.heap.size + 1) _ _ rfl rfl HX5.out.ret) rfl ⟨_, _, rfl, ⟨HVF.out, HO.out.low HX5.out.bel, HX5.out.bel⟩⟩
    · skip
      have hr : Ut.room s = 16 := by unfold Ut.room; rw [hf]; rfl
      rw [hr] at hfull
      have e0 : decide ((s.q.length : Int) ≥ 16) = false := by simp only [decide_eq_false_iff_not]; omega
      have e1 : decide (s.q.length ≥ 16) = false := by simp only [decide_eq_false_iff_not]; omega
      clear hfull hr
      go_enter Try.func69, Try.ntmps69
      go_upto_region 1 with fail
      generalize (w.alloc (Obj.cells (xuV s (.slice p s.q.length cap) ov) X17)).alloc (Obj.cells (xuV Ut.zero (.slice none 0 0) (.slice none 0 0)) X17) = w1 at *
      obtain ⟨-, -, -, -, -, -, c6, c7, -, c9, -⟩ := HX.out.cells
      rw [hf] at c6
      have f7 := HX.out.x.frozen 7
      have f9 := HX.out.x.frozen 9
      clear hf
      have hb1 := HX.out.bel
      have hE : (w1.alloc (.cells #[] U8)).ownsRow w1.heap.size U8 1 (.slice (some ⟨w1.heap.size, 0, none⟩) 0 0) 0 [] := ⟨rfl, .inr ⟨w1.heap.size, 0, #[], rfl, Nat.le_refl _, CsAt.new w1 U8 #[], Nat.le_refl _, Nat.zero_le _, rfl, rfl⟩⟩
      have HE := Lib.hid hE
      have HB2 := Lib.hid ((Below.refl w1.heap.size w1).alloc (Nat.le_refl _) (.cells #[] U8))
      have HV2 := Lib.hid ((HV.out.low hb1).low HB2.out)
      have HL := Lib.hid (show (u8V s.q).length = s.q.length * 1 by rw [u8V_len]; omega)
      have c9b := (HB2.out.cell (p := ⟨w.heap.size, 9, none⟩) HX.out.x.lt).trans c9
      clear hE
      go_wp2_with (at_builtin; refine wpList_cat rfl _ _ U8S rfl w1.heap.size U8 _ 1 1 Try.underlying30 info_u8 rfl (by omega) (by omega) _ 0 [] rfl HE.out _ s.q.length cap (u8V s.q) rfl HV2.out HL.out (u8V_one s.q) (by omega) HB2.out.size ?_)
      intro v2 w2 ho2 hb2
      have HO2 := Lib.hid ho2
      have HB3 := Lib.hid (HB2.out.trans hb2)
      clear ho2 hb2 c9b
      go_wp2_with (at_builtin; refine wpList_push rfl _ _ U8S rfl w1.heap.size U8 _ 1 1 Try.underlying30 info_u8 rfl (by omega) (by omega) _ s.q.length _ rfl HO2.out #[.int .u8 x] rfl (one_u8 x) _ rfl rfl (by omega) HB3.out.size ?_)
      intro v3 w3 ho3 hb3
      have hbb := HB3.out.trans hb3
      have hX3 := HX.out.low hbb
      have ho4 : w3.ownsRow w1.heap.size U8 1 v3 (s.q ++ [x]).length (u8V (s.q ++ [x])) := by simpa [u8V] using ho3
      have hvg : VwG G w3 v3 (s.q ++ [x]) := own_vwG ho4 (fun k hk => Nat.lt_of_lt_of_le (HG.out k hk) hb1.size)
      have j9 := hX3.x.cell 9
      have g9 := hX3.x.frozen 9
      simp only [xuV, List.getElem?_toArray, List.getElem?_cons_succ, List.getElem?_cons_zero] at j9
      have HX4 := Lib.hid (hX3.upd (i := 9) (v := v3) (u := { s with q := s.q ++ [x] }) (kv := v3) (lv := ov) rfl)
      have HX5 := Lib.hid (HX4.out.res { s with q := s.q ++ [x] } v3 ov)
      have HV5 := Lib.hid (hvg.low ((Below.refl w3.heap.size w3).mono (Nat.le_refl _)))
      obtain ⟨p3, cap3, hv3, -⟩ := own_form ho3
      subst hv3
      have hne := (HX.out.r).lt
      have hvg2 : VwG G ((w3.setCell ⟨w.heap.size, 9, none⟩ (.slice p3 (s.q.length + 1) cap3)).setRow (w.heap.size + 1) (xuV { s with q := s.q ++ [x] } (.slice p3 (s.q.length + 1) cap3) ov)) (.slice p3 (s.q.length + 1) cap3) (s.q ++ [x]) := by
        have hc : Chg (fun k => k = w.heap.size ∨ k = w.heap.size + 1) w3 ((w3.setCell ⟨w.heap.size, 9, none⟩ (.slice p3 (s.q.length + 1) cap3)).setRow (w.heap.size + 1) (xuV { s with q := s.q ++ [x] } (.slice p3 (s.q.length + 1) cap3) ov)) := (Chg.of_cell (.inl rfl) 9 _).trans (Chg.of_row (.inr rfl) _)
        exact own_vwG (hc.own ho4 (fun k hk => by have := (ho4.lt k hk).1; intro e; rcases e with e | e <;> omega)) (fun k hk => Nat.lt_of_lt_of_le (HG.out k hk) hb1.size)
      have HVF := Lib.hid hvg2
      clear ho3 hb3 hbb hX3 ho4 hvg hvg2 hne HB2 HB3 HE HO2 HV2 c6 c7 c9 f7 f9 hb1 HX HV5 HL
      go_upto_region 8 with fail
      generalize w3.setCell ⟨w.heap.size, 9, none⟩ (.slice p3 (s.q.length + 1) cap3) = w4 at *
      go_wp2_with (first | (refine wpList_load_row rfl X17 _ rfl w.heap.size rfl X17 _ (0, 0) _ HX4.out.x Try.underlying32 rfl info_X17 ?_) | (refine wpList_store_row rfl X17 _ _ rfl (w.heap.size + 1) (xuV { s with q := s.q ++ [x] } (.slice p3 (s.q.length + 1) cap3) ov) rfl rfl X17 _ HX4.out.r info_X17 rfl (xuV_one _ rfl HO.out.one) ?_))
      exact bodyPost_ret (results_cbU X17 Try.results69 _ _ (w.heap.size + 1) _ _ rfl rfl HX5.out.ret) rfl ⟨_, _, rfl, ⟨HVF.out, HO.out.low HX5.out.bel, HX5.out.bel⟩⟩
end Go.Proofs.Ytihinimgenpijaa
