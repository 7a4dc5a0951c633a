/-
  The statement BitsGathers (P1.4): for every word w and every slice l of pairs of ints, roebucklaw01.BitsGathers returns true and its arguments read afterwards as before. No condition.
-/
import Derived.Test.YtgkenodiaehnnaaRefG
import Derived.Test.YtgkenodiaehnnaaLive1
import Derived.Test.YtgkenodiaehnnaaFrame
import Derived.Deep.Slices
namespace Go.Proofs.Ytgkenodiaehnnaa
open Go.ChangeShapes Go.WideShapes Go.ChangeAt Go.RowKit Wd

set_option maxHeartbeats 400000 in
theorem gather_0 (x : Int) (ao : Option Addr) (cap : Nat) (w : World) :
    Calls Try.prog 33 #[.int .u64 x, .slice ao 0 cap] w fun e w' => e = .returned (.int .u64 0) ∧ w = w' := by
  go_enter Try.func33, Try.ntmps33
  go_wp2
  go_loop [5, 12] (fun v i => i = .int .i64 0 ∧ v = .int .u64 0) (fun _ _ => 0)
  case atStart => exact ⟨rfl, rfl⟩
  case round =>
    obtain ⟨rfl, rfl⟩ := hrel
    go_wp2
    go_ret
    exact ⟨rfl, rfl⟩
set_option maxHeartbeats 400000 in
theorem refGather_0 (x : Int) (ao : Option Addr) (cap : Nat) (w : World) :
    Calls Try.prog 34 #[.int .u64 x, .slice ao 0 cap] w fun e w' => e = .returned (.int .u64 0) ∧ w = w' := by
  go_enter Try.func34, Try.ntmps34
  go_wp2
  go_loop [5, 6] (fun v i => i = .int .i64 0 ∧ v = .int .u64 0) (fun _ _ => 0)
  case atStart => exact ⟨rfl, rfl⟩
  case round =>
    obtain ⟨rfl, rfl⟩ := hrel
    go_wp2
    go_ret
    exact ⟨rfl, rfl⟩

def IsPairs (w : World) (ao : Option Addr) (n : Nat) (l : List (Int × Int)) : Prop :=
  n = l.length ∧ FitAll l ∧ n ≤ 9223372036854775807 ∧ (n = 0 ∨ ∃ b off, ao = some ⟨b, off, none⟩ ∧ b < w.heap.size ∧ Pairs w b off l)

theorem open_pairs_slice {H : Type} {enc : TypeId × Value → H} {w : World} {base : Nat} {spare : Nat → Bool} {held : Bool} {t e k : TypeId} {ao : Option Addr} {n cap : Nat} {d : DataW H} {ps : List MemPlace}
    (ht : Try.prog.underlying t = some (.slice e)) (he : Try.prog.underlying e = some (.array 2 k)) (hk : Try.prog.underlying k = some (.int .i64)) (hce : Try.prog.cellsOf e = 2) (hck : Try.prog.cellsOf k = 1)
    (hd : DataW.Trod enc Try.prog w base spare held t (.slice ao n cap) d ps) : ∃ l, IsPairs w ao n l := by
  obtain ⟨fuel, hf⟩ := hd
  rcases Go.Deep.open_slice ht hf with ⟨hcs, _⟩ | ⟨a, len, cap', m, nf, D, Pl, hcs, hb, hl, hm, hmm, _, hel⟩
  · simp [Value.cells] at hcs
    obtain ⟨rfl, rfl, rfl⟩ := hcs
    exact ⟨[], rfl, fun j => by simp, by omega, .inl rfl⟩
  · simp [Value.cells] at hcs
    obtain ⟨rfl, rfl, rfl⟩ := hcs
    have hmn : n ≤ m := by rw [hmm]; split <;> omega
    have key : ∀ i, i < n → ∃ q : Int × Int, w.cell? (a.add (i * 2)) = some (.int .i64 q.1) ∧ w.cell? ((a.add (i * 2)).add 1) = some (.int .i64 q.2) ∧ (-9223372036854775808 ≤ q.1 ∧ q.1 < 9223372036854775808 ∧ -9223372036854775808 ≤ q.2 ∧ q.2 < 9223372036854775808) := by
      intro i hi
      obtain ⟨cs', hc, htr⟩ := hel i (by omega)
      rw [hce] at hc
      obtain ⟨_, hlen, hat⟩ := World.cells?_some hc
      obtain ⟨xs, m', rfl, _, _, hxl, hall⟩ := DataW.trod_array he htr
      have h0 := hall 0 (by omega)
      have h1 := hall 1 (by omega)
      rw [hck] at h0 h1
      obtain ⟨x0, hx0⟩ : ∃ x, xs[0]? = some x := ⟨xs[0], by simp [hxl]⟩
      obtain ⟨x1, hx1⟩ : ∃ x, xs[1]? = some x := ⟨xs[1], by simp [hxl]⟩
      rw [hx0] at h0
      rw [hx1] at h1
      obtain ⟨p, hp, _, hwp⟩ := DataW.trod_int hk h0
      obtain ⟨s, hs, _, hws⟩ := DataW.trod_int hk h1
      have bp := bounds_i64 hwp
      have bs := bounds_i64 hws
      have c0 := hat 0 (by omega)
      have c1 := hat 1 (by omega)
      match cs', hlen with
      | [v0, v1], _ =>
        simp at hp hs
        subst hp
        subst hs
        refine ⟨(p, s), ?_, ?_, by simp only; omega⟩
        · simpa [Addr.add] using c0
        · simpa using c1
    by_cases hn0 : n = 0
    · subst hn0
      exact ⟨[], rfl, fun j => by simp, by omega, .inl rfl⟩
    · obtain ⟨f, hf⟩ := Go.Deep.choose_lt key
      have hsp : a.spot = none := by
        have := World.cell?_spot (hf 0 (by omega)).1
        simpa [Addr.add] using this
      have hlt : a.block < w.heap.size := by
        have h := (hf 0 (by omega)).1
        simp only [Nat.zero_mul] at h
        have h' : w.cell? a = some (.int .i64 (f 0).1) := by simpa [Addr.add] using h
        unfold World.cell? at h'
        cases hh : w.heap[a.block]? with
        | none => rw [hh] at h'; simp at h'
        | some o => exact (Array.getElem?_eq_some_iff.1 hh).1
      obtain ⟨b, off, sp⟩ := a
      simp only at hsp hlt
      subst hsp
      have hget : ∀ j, j < n → ((List.range n).map f).getD j (0, 0) = f j := by
        intro j hj
        simp [List.getD, hj]
      refine ⟨(List.range n).map f, by simp, ?_, by unfold maxLen at hm; omega, .inr ⟨b, off, rfl, hlt, ?_⟩⟩
      · intro j
        by_cases hj : j < n
        · rw [hget j hj]; exact (hf j hj).2.2
        · have : ((List.range n).map f).getD j (0, 0) = (0, 0) := by
            simp [List.getD, hj]
          rw [this]
          simp
      · intro j hj
        have hj' : j < n := by simpa using hj
        rw [hget j hj']
        obtain ⟨a1, a2, _⟩ := hf j hj'
        rw [add_plain] at a1
        rw [add_plain, add_plain] at a2
        exact ⟨a1, a2⟩

theorem Pairs.below {w w' : World} {b off : Nat} {l : List (Int × Int)} (h : Pairs w b off l) (hb : b < w.heap.size) (hB : Below w.heap.size w w') : Pairs w' b off l := by
  intro j hj
  obtain ⟨h1, h2⟩ := h j hj
  exact ⟨(hB.cell (by exact hb)).trans h1, (hB.cell (by exact hb)).trans h2⟩

set_option maxHeartbeats 400000 in
theorem gathers_walk (x : Int) (ao : Option Addr) (n cap : Nat) (l : List (Int × Int)) (w : World) (h0 : 0 ≤ x ∧ x ≤ 18446744073709551615) (h1 : IsPairs w ao n l) :
    Calls Try.prog 6 #[.int .u64 x, .slice ao n cap] w fun e w' => e = .returned (.bool true) ∧ Below w.heap.size w w' := by
  obtain ⟨x0, x1⟩ := h0
  have x2 : x < 18446744073709551616 := by omega
  clear x1
  obtain ⟨hn, hfit, hmax, hcase⟩ := h1
  by_cases c : 70 < n
  · clear hcase hn
    go_enter Try.func6, Try.ntmps6
    go_wp2_with fail
    refine (live1_c _).mono ?_
    rintro e w1 ⟨rfl, hb⟩
    go_wp2_with fail
    go_ret
    exact ⟨rfl, hb⟩
  · rcases hcase with hz | ⟨b, off, rfl, hb, hp⟩
    · subst hz
      clear hn c
      go_enter Try.func6, Try.ntmps6
      go_wp2_with fail
      refine (live1_c _).mono ?_
      rintro e w1 ⟨rfl, hb⟩
      go_wp2_with fail
      refine (gather_0 _ _ _ _).mono ?_
      rintro e w' ⟨rfl, rfl⟩
      go_wp2_with fail
      refine (refGather_0 _ _ _ _).mono ?_
      rintro e w' ⟨rfl, rfl⟩
      go_wp2_with fail
      go_ret
      exact ⟨rfl, hb⟩
    · have HN := Lib.hid hn
      have HP := Lib.hid hp
      have HF := Lib.hid hfit
      clear hn hp hfit
      go_enter Try.func6, Try.ntmps6
      go_wp2_with fail
      refine (live1_c _).mono ?_
      rintro e w1 ⟨rfl, hB⟩
      have hb1 : b < w1.heap.size := Nat.lt_of_lt_of_le hb hB.size
      go_wp2_with fail
      refine (gather_c x l b off n cap _ x0 x2 hb1 (by omega) HN.out HF.out (HP.out.below hb hB)).mono ?_
      rintro e w2 ⟨rfl, hB2⟩
      have HP2 := Lib.hid ((HP.out.below hb hB).below hb1 hB2)
      have hb2 : b < w2.heap.size := Nat.lt_of_lt_of_le hb1 hB2.size
      replace hB := hB.trans (hB2.mono hB.size)
      clear hB2
      go_wp2_with fail
      refine (refGather_c x l b off n cap _ x0 x2 hb2 (by omega) HN.out HF.out HP2.out).mono ?_
      rintro e w3 ⟨rfl, hB3⟩
      replace hB := hB.trans (hB3.mono hB.size)
      clear hB3
      go_wp2_with fail
      go_ret
      exact ⟨rfl, hB⟩

set_option maxRecDepth 100000 in
theorem gathers_lifted (os : Os) (started : os.Started) (H : Type) (enc : TypeId × Value → H) :
    ReturnsInHanded {} Try.checked os 6 .any (Rows.bitsGathersSpec.pre6 enc Try.prog Try.f6 Rows.bitsGathersRow.domain false) (Rows.bitsGathersSpec.post enc Try.prog Try.f6 false true false false) := by
  refine returnsInHanded_of_change (C := Try.checked) own started (by kernel_rfl) Try.func6
    (ChangeSpec.witness6 (enc := enc) (C := Try.checked) false ⟨#[], #[.int .u64 0, .slice none 0 0], []⟩ 8 (by kernel_rfl) (by kernel_rfl) (by kernel_rfl) (by kernel_rfl)) ?_
  intro W base args ds gs before hval0 hW hcnd _
  have hval : ∀ (j : Nat) t v, Try.f6.params[j]? = some t → args[j]? = some v → Value.okWide Try.prog W .any base t v := hval0
  have hW' := hW
  obtain ⟨p, q, hA0, hV, rfl, hfz, hnd⟩ := hW
  have hA : DataW.TrodAll enc Try.prog W 0 (fun _ => true) true Try.f6.params.toList args.toList ds p := hA0
  rw [Try.params6] at hA hval
  obtain ⟨v0, vs0, d0, ds0, p0, q0, hargs, rfl, rfl, h0, r0⟩ := trodAll_cons hA
  obtain ⟨v1, vs1, d1, ds1, p1, q1, rfl, rfl, rfl, h1, r1⟩ := trodAll_cons r0
  obtain ⟨rfl, rfl, rfl⟩ := trodAll_nil r1
  obtain rfl : args = #[v0, v1] := by cases args; simp_all
  obtain ⟨rfl, rfl⟩ := trodVars_none hV
  obtain ⟨a0, rfl, rfl, rfl, w0⟩ := open_int Try.underlying22 (hval 0 22 v0 rfl rfl) h0
  obtain ⟨a1, len1, cap1, rfl⟩ := okWide_slice Try.underlying35 (hval 1 35 v1 rfl rfl)
  have k1 := h1
  have lt1 : ∀ x ∈ p1, x.block < W.heap.size := by obtain ⟨m, hm⟩ := k1; exact DataW.trod_lt m _ _ _ hm
  obtain ⟨l, hl⟩ := open_pairs_slice Try.underlying35 Try.underlying23 Try.underlying3 (by kernel_rfl) (by kernel_rfl) h1
  clear hA0 hval0
  refine (gathers_walk a0 a1 len1 cap1 l W (bounds_u64 w0) hl).mono fun e W' ⟨he, bel⟩ => ?_
  subst he
  exact ⟨_, rfl, _, _, _, [], _, [], hW', trodAll_mk1 (shut_bool Try.underlying4 _), (trodAll_cons_mk (shut_int Try.underlying22 w0) (trodAll_cons_mk (Below.trod laidOut (by kernel_rfl) (of_decide_eq_true (by kernel_rfl)) k1 bel lt1) trodAll_mk0)), rfl, bel.frame _, fun h => by cases h⟩

theorem gathers_over : Rows.bitsGathersRow.holds Try.pinned (OpenSpec.ofChange Rows.bitsGathersSpec) :=
  OpenClaim.holds_of_wide 6 Try.f6 rfl rfl rfl rfl rfl rfl rfl ⟨rfl, rfl, rfl, rfl, rfl⟩ rfl rfl rfl rfl rfl (by kernel_rfl) Try.func6 (by kernel_rfl)
    (of_decide_eq_true (by kernel_rfl)) (by unfold Func.isWrapper; first | (rw [if_pos (by decide +kernel)]; kernel_rfl) | (rw [if_neg (by decide +kernel)]; exact ⟨rfl, rfl⟩))
    (fun os started H enc _ => gathers_lifted os started H enc)

theorem gathers_said : Rows.BitsGathersSaid := gathers_over
end Go.Proofs.Ytgkenodiaehnnaa
