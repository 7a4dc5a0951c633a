/-
  The statement KindAll (P4.1, P4.3): for every number of how many are wanted, roebucklaw04.KindAll returns true and its argument reads afterwards as before. No condition.
-/
import Derived.Test.YtmaooljlkpfkoaaNamesLaw
namespace Go.Proofs.Ytmaooljlkpfkoaa
open Go.ChangeShapes Go.WideShapes Go.ChangeAt Go.RowKit Wd Go.Lib

theorem find_self (k : Nat) (h1 : 1 ≤ k) (h2 : k ≤ 98) : findN (bsOf (Tab.nmL k)) = k := by
  rw [find_last]
  exact lastN_some 99 k h1 (by omega) (by omega) (by simp [isNm])
theorem cell_lt {W : World} {b o : Nat} {v : Value} (h : W.cell? ⟨b, o, none⟩ = some v) : b < W.heap.size := by
  apply Classical.byContradiction
  intro hn
  have : W.heap[b]? = none := Array.getElem?_eq_none (by omega)
  simp [World.cell?, this] at h
abbrev kallWorld (W : World) (pn pf : Nat) (m : Nat) : World := (W.setCell ⟨pn, 0, none⟩ (.int .i64 ((m : Int) + 1))).setCell ⟨pf, 0, none⟩ (.bool true)
set_option maxHeartbeats 2000000 in
theorem kall1_c (m : Nat) (hm : m < 98) (most : Int) (pn pf pl pm g : Nat) (W : World)
    (hn : W.cell? ⟨pn, 0, none⟩ = some (.int .i64 m)) (fn : W.frozen? ⟨pn, 0, none⟩ = false) (hf : W.cell? ⟨pf, 0, none⟩ = some (.bool true)) (ff : W.frozen? ⟨pf, 0, none⟩ = false)
    (hl : W.cell? ⟨pl, 0, none⟩ = some (.slice (some ⟨g, 0, none⟩) 99 99)) (hmo : W.cell? ⟨pm, 0, none⟩ = some (.int .i64 most)) (hc : W.cell? ⟨g, m + 1, none⟩ = some (strV (Tab.nmL (m + 1))))
    (n1 : pn ≠ pf) (n2 : pn ≠ pl) (n3 : pn ≠ pm) (n4 : pn ≠ g) (n5 : pf ≠ pl) (n6 : pf ≠ pm) (n7 : pf ≠ g) :
    Calls Try.prog 19 #[.int .i64 ((m : Int) + 1), strV (Tab.nmL (m + 1)), .pointer (some ⟨pn, 0, none⟩), .pointer (some ⟨pf, 0, none⟩), .pointer (some ⟨pl, 0, none⟩), .pointer (some ⟨pm, 0, none⟩)] W
      fun e W' => e = .returned (.bool ((m : Int) + 1 != most)) ∧ ∃ W2, Below W.heap.size (kallWorld W pn pf m) W2 ∧ W' = W2.setCell ⟨pf, 0, none⟩ (.bool true) := by
  have HF := Lib.hid (find_self (m + 1) (by omega) (by omega))
  go_enter Try.func19, Try.ntmps19
  go_wp2_with fail
  have p1 := cell_lt hn
  have p2 := cell_lt hf
  have p3 := cell_lt hmo
  have s1 : (kallWorld W pn pf m).cell? ⟨pn, 0, none⟩ = some (.int .i64 ((m : Int) + 1)) := by
    rw [World.cell?_setCell_far _ _ _ _ (Ne.symm n1)]
    exact World.cell?_setCell_same' _ _ _ (by rw [hn]; rfl)
  have s2 : (kallWorld W pn pf m).cell? ⟨pf, 0, none⟩ = some (.bool true) := by
    refine World.cell?_setCell_same' _ _ _ ?_
    rw [World.cell?_setCell_far _ _ _ _ n1, hf]; rfl
  have s3 : (kallWorld W pn pf m).cell? ⟨pm, 0, none⟩ = some (.int .i64 most) := by
    rw [World.cell?_setCell_far _ _ _ _ n6, World.cell?_setCell_far _ _ _ _ n3]; exact hmo
  have s4 : (kallWorld W pn pf m).frozen? ⟨pf, 0, none⟩ = false := by
    rw [World.frozen?_setCell, World.frozen?_setCell]; exact ff
  have hz : (kallWorld W pn pf m).heap.size = W.heap.size := by simp [World.setCell]
  refine (find_c _ _).mono ?_
  rintro e w1 ⟨rfl, hb⟩
  have hb' : Below W.heap.size (kallWorld W pn pf m) w1 := by rw [← hz]; exact hb
  have t1 := (hb'.cell (p := ⟨pn, 0, none⟩) p1).trans s1
  have t2 := (hb'.cell (p := ⟨pf, 0, none⟩) p2).trans s2
  have t3 := (hb'.cell (p := ⟨pm, 0, none⟩) p3).trans s3
  have t4 := (hb'.frozen (p := ⟨pf, 0, none⟩) p2).trans s4
  have HB := Lib.hid hb'
  rw [HF.out]
  have f1 : ((m + 1 : Nat) != 0) = true := by simp
  rw [f1, show (((m + 1 : Nat)) : Int) = (m : Int) + 1 by omega]
  clear hb hb' s1 s2 s3 s4 hz hn fn hf ff hl hmo hc HF
  go_wp2_with fail
  go_ret
  exact ⟨rfl, _, HB.out, rfl⟩

/-- What stands in the cells that the function handed to the iterator has captured, when m ops have been told. -/
structure KAt (W : World) (most : Int) (pn pf pl pm g m : Nat) : Prop where
  n : W.cell? ⟨pn, 0, none⟩ = some (.int .i64 m)
  nf : W.frozen? ⟨pn, 0, none⟩ = false
  f : W.cell? ⟨pf, 0, none⟩ = some (.bool true)
  ff : W.frozen? ⟨pf, 0, none⟩ = false
  l : W.cell? ⟨pl, 0, none⟩ = some (.slice (some ⟨g, 0, none⟩) 99 99)
  mo : W.cell? ⟨pm, 0, none⟩ = some (.int .i64 most)
  c : ∀ k, k < 99 → W.cell? ⟨g, k, none⟩ = some (strV (Tab.nmL k))
theorem KAt.on {W W' : World} {most : Int} {pn pf pl pm g m : Nat} (h : KAt W most pn pf pl pm g m) (hb : Below W.heap.size W W') : KAt W' most pn pf pl pm g m :=
  ⟨(hb.cell (p := ⟨pn, 0, none⟩) (cell_lt h.n)).trans h.n, (hb.frozen (p := ⟨pn, 0, none⟩) (cell_lt h.n)).trans h.nf, (hb.cell (p := ⟨pf, 0, none⟩) (cell_lt h.f)).trans h.f, (hb.frozen (p := ⟨pf, 0, none⟩) (cell_lt h.f)).trans h.ff,
    (hb.cell (p := ⟨pl, 0, none⟩) (cell_lt h.l)).trans h.l, (hb.cell (p := ⟨pm, 0, none⟩) (cell_lt h.mo)).trans h.mo, fun k hk => (hb.cell (p := ⟨g, k, none⟩) (cell_lt (h.c k hk))).trans (h.c k hk)⟩
theorem KAt.iter {W : World} {most : Int} {pn pf pl pm g m : Nat} (h : KAt W most pn pf pl pm g m) (b : Nat) (S : ByteArray) (p q : Nat) (hb : W.heap[b]? = some (.stringIter S p)) : KAt (W.iterAt b S q) most pn pf pl pm g m := by
  have hk : ∀ {a : Addr} {v : Value}, W.cell? a = some v → (W.iterAt b S q).cell? a = some v ∧ (W.iterAt b S q).frozen? a = W.frozen? a := fun hc =>
    ⟨cell_kept hc (grownBy_putObj' W b _) (fun r e => by cases e; exact ⟨_, hb, rfl⟩), frozen_kept hc (grownBy_putObj' W b _) (fun r e => by cases e; exact ⟨_, hb, rfl⟩)⟩
  exact ⟨(hk h.n).1, (hk h.n).2.trans h.nf, (hk h.f).1, (hk h.f).2.trans h.ff, (hk h.l).1, (hk h.mo).1, fun k hk' => (hk (h.c k hk')).1⟩
theorem KAt.step {W W2 : World} {most : Int} {pn pf pl pm g m : Nat} (h : KAt W most pn pf pl pm g m) (n1 : pn ≠ pf) (n2 : pn ≠ pl) (n3 : pn ≠ pm) (n4 : pn ≠ g) (n5 : pf ≠ pl) (n6 : pf ≠ pm) (n7 : pf ≠ g)
    (hb : Below W.heap.size (kallWorld W pn pf m) W2) : KAt (W2.setCell ⟨pf, 0, none⟩ (.bool true)) most pn pf pl pm g (m + 1) := by
  have far : ∀ b o, pf ≠ b → pn ≠ b → b < W.heap.size → (W2.setCell ⟨pf, 0, none⟩ (.bool true)).cell? ⟨b, o, none⟩ = W.cell? ⟨b, o, none⟩ := fun b o e1 e2 hlt => by
    rw [World.cell?_setCell_far _ _ _ _ e1, hb.cell (p := ⟨b, o, none⟩) hlt, World.cell?_setCell_far _ _ _ _ e1, World.cell?_setCell_far _ _ _ _ e2]
  have fz : ∀ b o, b < W.heap.size → (W2.setCell ⟨pf, 0, none⟩ (.bool true)).frozen? ⟨b, o, none⟩ = W.frozen? ⟨b, o, none⟩ := fun b o hlt => by
    rw [World.frozen?_setCell, hb.frozen (p := ⟨b, o, none⟩) hlt, World.frozen?_setCell, World.frozen?_setCell]
  refine ⟨?_, (fz _ _ (cell_lt h.n)).trans h.nf, ?_, (fz _ _ (cell_lt h.f)).trans h.ff, (far _ _ n5 n2 (cell_lt h.l)).trans h.l, (far _ _ n6 n3 (cell_lt h.mo)).trans h.mo, fun k hk => (far _ _ n7 n4 (cell_lt (h.c k hk))).trans (h.c k hk)⟩
  · rw [World.cell?_setCell_far _ _ _ _ (Ne.symm n1), hb.cell (p := ⟨pn, 0, none⟩) (cell_lt h.n), World.cell?_setCell_far _ _ _ _ (Ne.symm n1)]
    rw [World.cell?_setCell_same' _ _ _ (by rw [h.n]; rfl)]
    rw [show (((m + 1 : Nat)) : Int) = (m : Int) + 1 by omega]
  · refine World.cell?_setCell_same' _ _ _ ?_
    rw [hb.cell (p := ⟨pf, 0, none⟩) (cell_lt h.f)]
    rw [World.cell?_setCell_same' _ _ _ (by rw [World.cell?_setCell_far _ _ _ _ n1, h.f]; rfl)]; rfl

/-- How many ops are told. -/
def wantN (most : Int) : Nat := if 1 ≤ most ∧ most < 98 then most.toNat else 98
attribute [local go_sem] Oper.semAt_some
set_option maxRecDepth 100000 in
set_option maxHeartbeats 4000000 in
theorem all1_kall (F : Fence) (n : Nat) (hF : F.fn 22) (hF2 : F.fn 19) (hro : F.round = none) (hn : 1 ≤ n) (most : Int) (pn pf pl pm g : Nat) (w0 W : World)
    (hY : ∀ (m : Nat) (W : World), m < 98 → KAt W most pn pf pl pm g m → CallsIn F (n - 1) Try.prog 19 #[.int .i64 ((m : Int) + 1), strV (Tab.nmL (m + 1)), .pointer (some ⟨pn, 0, none⟩), .pointer (some ⟨pf, 0, none⟩), .pointer (some ⟨pl, 0, none⟩), .pointer (some ⟨pm, 0, none⟩)] W
      fun e W' => e = .returned (.bool ((m : Int) + 1 != most)) ∧ KAt W' most pn pf pl pm g (m + 1) ∧ KeepsWalks W W' ∧ Below w0.heap.size W W')
    (h0 : KAt W most pn pf pl pm g 0) (hB : Below w0.heap.size w0 W) :
    CallsIn F n Try.prog 22 #[.func (.func 19) #[] #[.pointer (some ⟨pn, 0, none⟩), .pointer (some ⟨pf, 0, none⟩), .pointer (some ⟨pl, 0, none⟩), .pointer (some ⟨pm, 0, none⟩)]] W
      fun e W' => e = .returned (.tuple #[]) ∧ KAt W' most pn pf pl pm g (wantN most) ∧ Below w0.heap.size w0 W' := by
  refine callsIn_of_wp Try.func22 rfl hF ?_ hro
  rw [← Tab.allB_eq]
  have HS := Lib.hid isAll
  generalize Tab.allB = S at *
  simp only [Try.ntmps22, List.size_toArray, List.length_cons, List.length_nil, Nat.reduceAdd, Nat.reduceSub, Array.replicate_succ, Array.replicate_zero, List.push_toArray, List.append_toArray, List.nil_append, List.cons_append]
  have hu := Try.underlying9
  have hBi : Below W.heap.size W (W.iter S 0) := (Below.refl _ W).alloc (Nat.le_refl _) _
  have HJ0 := Lib.hid (h0.on hBi)
  have HBi := Lib.hid (hB.trans (hBi.mono hB.size))
  have hsz0 : w0.heap.size ≤ W.heap.size := hB.size
  clear hBi
  gi_wp2
  have HB0 := Lib.hid (World.iter_heap W S 0)
  gi_loopw [2, 3] (fun o s wr => ∃ k j : Nat, (k < 98 ∧ j ≤ Tab.nmLen k ∨ k = 98 ∧ j = 0) ∧ o = .int .i64 ((k : Int) + 1) ∧ s = .int .i64 (Tab.off k : Nat) ∧ wr.heap[W.heap.size]? = some (.stringIter S (Tab.off k + j)) ∧ (KAt wr most pn pf pl pm g k ∧ Below w0.heap.size w0 wr) ∧ (1 ≤ most → (k : Int) < most))
    (fun _ _ wr => 559 - wr.iterPos W.heap.size)
  case atStart =>
    exact ⟨0, 0, .inl ⟨by decide, by decide⟩, rfl, rfl, HB0.out, ⟨HJ0.out, HBi.out⟩, fun h => by omega⟩
  case round =>
    obtain ⟨k, j, hkj, rfl, rfl, hb, ⟨hJk, hBk⟩, hmost⟩ := hrel
    have hpos : wr.iterPos W.heap.size = Tab.off k + j := by simp [World.iterPos, hb]
    have HPOS := Lib.hid hpos
    have HBK := Lib.hid hb
    have HM := Lib.hid hmost
    clear hpos hmost
    rcases hkj with ⟨hk, hj⟩ | ⟨rfl, rfl⟩
    · obtain ⟨ho, h1, h2, -, -⟩ := Tab.off_ok ⟨k, hk⟩
      simp only at ho h1 h2
      have HO := Lib.hid ho
      have hle : Tab.off k + Tab.nmLen k + 1 ≤ 559 := by omega
      clear ho h2
      by_cases hlt : j < Tab.nmLen k
      · obtain ⟨c, hc, hc2, hget⟩ := HS.out.next k j hk hlt
        have hnx := fun ty => next_at (P := Try.prog) wr W.heap.size S (Tab.off k + j) ty c hb hc2 hget
        have hne : (((c : Nat) : Int) != 32) = true := by simp; omega
        clear hget hb
        gi_wp2
        go_roundw
        case rel => exact ⟨k, j + 1, .inl ⟨hk, hlt⟩, rfl, rfl, by rw [iterAt_heap _ _ _ _ _ HBK.out]; rfl, ⟨hJk.iter _ _ _ _ HBK.out, below_iterAt hBk hsz0 _ _⟩, HM.out⟩
        case measure => rw [HPOS.out]; simp only [World.iterPos, iterAt_heap _ _ _ _ _ HBK.out]; omega
      · obtain rfl : j = Tab.nmLen k := by omega
        have hget := HS.out.gap k hk
        have hnx := fun ty => next_at (P := Try.prog) wr W.heap.size S (Tab.off k + Tab.nmLen k) ty 32 hb (by decide) hget
        have hne : (((32 : Nat) : Int) != 32) = false := by decide
        have hex := HS.out.name k hk
        have hsz := HS.out.size
        have hJ' := hJk.iter W.heap.size S _ (Tab.off k + Tab.nmLen k + 1) HBK.out
        have HH := Lib.hid (iterAt_heap wr W.heap.size S (Tab.off k + Tab.nmLen k) (Tab.off k + Tab.nmLen k + 1) HBK.out)
        have hR := hY k _ hk hJ'
        have HBW := Lib.hid (below_iterAt hBk hsz0 S (Tab.off k + Tab.nmLen k + 1))
        have hsl : ∀ W0 : World, (Instr.slice 9 (.string S) (some (.int .i64 (Tab.off k : Nat))) (some (.int .i64 ((Tab.off k : Nat) + (Tab.nmLen k : Nat)))) none).run Try.prog W0 = .ok (.string (bsOf (Tab.nmL (k + 1)))) W0 := fun W0 => by
          rw [← hex, slice_lh W0 _ S hu _ _ (by omega) (by omega) (by rw [hsz]; omega)]
          have e1 : ((Tab.off k : Nat) : Int).toNat = Tab.off k := by omega
          have e2 : (((Tab.off k : Nat) : Int) + ((Tab.nmLen k : Nat) : Int)).toNat = Tab.off k + Tab.nmLen k := by omega
          rw [e1, e2]
        clear hget hb hlt hex hsz hJ'
        by_cases hm : (k : Int) + 1 = most
        · have hm' : ((k : Int) + 1 != most) = false := by simp [hm]
          have HW := Lib.hid (show wantN most = k + 1 by
            unfold wantN
            by_cases h98 : most < 98
            · rw [if_pos (by omega)]; omega
            · rw [if_neg (by omega)]; omega)
          rw [hm'] at hR
          clear hm hm'
          gi_wp2_with (gi_at_call 19; refine hR.mono ?_; rintro e W3 ⟨rfl, hK3, hw3, hB3⟩; have HB3 := Lib.hid hB3; have HW3 := Lib.hid hw3; clear hB3 hw3)
          refine bodyPost_ret (results_none rfl _ _ _) rfl ?_
          exact ⟨rfl, by rw [HW.out]; exact hK3, HBW.out.trans HB3.out⟩
        · have hm' : ((k : Int) + 1 != most) = true := by simpa using hm
          have HM2 := Lib.hid (show 1 ≤ most → ((k + 1 : Nat) : Int) < most from fun h => by have := HM.out h; omega)
          rw [hm'] at hR
          clear hm hm'
          gi_wp2_with (gi_at_call 19; refine hR.mono ?_; rintro e W3 ⟨rfl, hK3, hw3, hB3⟩; have HB3 := Lib.hid hB3; have HW3 := Lib.hid hw3; clear hB3 hw3)
          have HK3 := Lib.hid (HW3.out.same _ _ HH.out rfl)
          go_roundw
          case rel =>
            have e : Tab.off k + Tab.nmLen k + 1 = Tab.off (k + 1) + 0 := HO.out
            refine ⟨k + 1, 0, ?_, by go_num, ?_, ?_, ⟨hK3, HBW.out.trans HB3.out⟩, HM2.out⟩
            · by_cases h : k + 1 < 98
              · exact .inl ⟨h, Nat.zero_le _⟩
              · exact .inr ⟨by omega, rfl⟩
            · have := HO.out; go_num
            · rw [HK3.out, e]
          case measure => rw [HPOS.out]; simp only [World.iterPos, HK3.out]; omega
    · have hnx := fun ty => run_next_end_at (P := Try.prog) wr W.heap.size S (Tab.off 98 + 0) ty hb (by rw [HS.out.size, Tab.off_end.1]; decide)
      clear hb
      gi_wp2
      go_end0
      refine ⟨rfl, ?_, hBk⟩
      unfold wantN
      rw [if_neg (fun h => by have := HM.out h.1; omega)]
      exact hJk
end Go.Proofs.Ytmaooljlkpfkoaa
