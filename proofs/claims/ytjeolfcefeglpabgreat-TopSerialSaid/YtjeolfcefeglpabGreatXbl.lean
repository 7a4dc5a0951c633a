/-
  Contract of locks.Take. Contracts of slices.Sort and Compact of numbers that the call owns, of locks.Plan, Needs, Done. Contract of locks.Drop.
-/
import Derived.Test.YtjeolfcefeglpabGreatXbk
set_option maxRecDepth 20000
namespace Go.Proofs.YtjeolfcefeglpabGreat
open Go.ChangeShapes Go.WideShapes Go.ChangeAt Go.RowKit
variable {Z : Nat → Prop}

namespace Lk
/-- The rows when a lock has been taken, or is waited for. -/
def take (R : Int → List Int) (n : Nat) (who at_ : Int) : Int → List Int :=
  if has who at_ n = true then (if (R at_).any (fun y => who == y) = true then R else upd R at_ (R at_ ++ [who])) else R
def takeT (R : Int → List Int) (n : Nat) (who at_ : Int) : Bool := has who at_ n && ((take R n who at_ at_).getD 0 0 == who)
theorem any_mem (who : Int) (xs : List Int) : xs.any (fun y => who == y) = true ↔ who ∈ xs := by
  rw [List.any_eq_true]
  constructor
  · rintro ⟨x, hx, e⟩
    rw [show who = x by simpa using e]
    exact hx
  · exact fun h => ⟨who, h, by simp⟩
theorem ok_take {R : Int → List Int} {n : Nat} (h : Ok R n) {who at_ : Int} (hh : has who at_ n = true) (hn : (R at_).any (fun y => who == y) = false) : Ok (upd R at_ (R at_ ++ [who])) n := by
  obtain ⟨a1, a2, a3, a4⟩ := has_iff.1 hh
  have hm : who ∉ R at_ := fun e => by rw [(any_mem who (R at_)).2 e] at hn; cases hn
  refine ⟨fun i hi => ?_, fun i x hx => ?_, fun i => ?_⟩
  · rw [upd_other R _ (by omega)]; exact h.out i hi
  · by_cases e : i = at_
    · subst e
      rw [upd_same, List.mem_append] at hx
      rcases hx with hx | hx
      · exact h.who _ _ hx
      · obtain rfl : x = who := by simpa using hx
        omega
    · rw [upd_other R _ e] at hx; exact h.who _ _ hx
  · by_cases e : i = at_
    · subst e
      rw [upd_same, List.nodup_append]
      refine ⟨h.nod _, by simp, fun a ha b hb => ?_⟩
      obtain rfl : b = who := by simpa using hb
      exact fun e => hm (e ▸ ha)
    · rw [upd_other R _ e]; exact h.nod i
end Lk
/-- A row is built anew, in memory that the call made. -/
theorem LkAt.midNew {w w' : World} {base lp mb n : Nat} {R : Int → List Int} (h : LkAt Z w base lp mb n R) (hb : Below w.heap.size w w') (i : Int) {v : Value} {l : List Int} (hl : 0 < l.length) (hr : w'.ownsRow w.heap.size 3 1 v l.length (iV l)) :
    ∃ x, v = hdV x ∧ LkMid Z w' base lp mb n R i x l := by
  obtain ⟨D, hs, hD, hF, hR, hX, hY⟩ := h.own
  rcases hr.2 with ⟨-, h0⟩ | ⟨g, cap, cur, rfl, h1, h2, h3, h4, h5, h6⟩
  · omega
  · have hlt := h.lt
    have hml := h.mlt
    have hb0 := h.b0
    have hgl : g < w'.heap.size := (Array.getElem?_eq_some_iff.1 h2).1
    have hbb : ∀ j b o m c, InI j → hs j = some (b, o, m, c) → b < w.heap.size := fun j b o m c hj e => by
      rcases hR j hj with ⟨e2, -⟩ | ⟨b', o', c', e2, hs2⟩
      · rw [e2] at e; cases e
      · rw [e2] at e; cases e; exact hs2.lt
    refine ⟨some (g, 0, l.length, cap), rfl, h.ok, h.n0, h.n1, (hb.cell (p := ⟨lp, 0, none⟩) hlt).trans h.c0, (hb.cell (p := ⟨lp, 1, none⟩) hlt).trans h.c1, h.b0, h.b1, Nat.lt_of_lt_of_le hlt hb.size, h.ne, fun k hk => ⟨Nat.lt_of_lt_of_le (h.flt k hk).1 hb.size, (h.flt k hk).2⟩,
      .inr ⟨g, 0, cap, rfl, hl, h3, h4, by omega, hgl, fun j hj => ?_, fun j hj => ?_, fun j hj => ?_, _, h2⟩, fun e => by simp [e] at hl, D, hs, hD.kept (row := none) ⟨hb.os, hb.tape, hb.output, hb.size, fun k hk _ => hb.block k hk⟩ (by simp), hF, fun j hj _ => (hR j hj).low hb, hX, hY,
      fun b o m c e => by cases e; exact ⟨by omega, by omega, fun hz => by have := (h.flt _ hz).1; omega⟩, fun j b o m c o' m' c' hj _ e e2 => by cases e2; have := hbb j _ _ _ _ hj e; omega⟩
    · rw [Nat.zero_add, hr.cellAt j (by omega), iV_at l j hj]
    · rw [Nat.zero_add, cell_of_row w' g j _ _ _ h2, Array.getElem?_eq_getElem (by omega)]
      rfl
    · exact frozen_of_row w' g _ _ _ h2
/-- A row has room: one more number is laid behind it. -/
theorem LkAt.midRoom {w : World} {base lp mb n : Nat} {R : Int → List Int} (h : LkAt Z w base lp mb n R) {D : DataW Unit} {hs : Int → Hdr} (hD : w.ownsMap Tryz.prog KI rowElem mb (Maps.size D) D) (hF : FitsL D n hs R) (hR : ∀ i, InI i → Rw w base (hs i) (R i)) (hX : ∀ i b o m c, InI i → hs i = some (b, o, m, c) → b ≠ lp ∧ b ≠ mb ∧ ¬ Z b)
    (hY : ∀ i j b o m c o' m' c', InI i → InI j → hs i = some (b, o, m, c) → hs j = some (b, o', m', c') → i = j) (i x : Int) (hi : InI i) {b o c : Nat} (he : hs i = some (b, o, (R i).length, c)) (hS : RwS w base b o c (R i)) (hroom : (R i).length < c) :
    LkMid Z (w.setCell ⟨b, o + (R i).length, none⟩ (.int .i64 x)) base lp mb n R i (some (b, o, (R i ++ [x]).length, c)) (R i ++ [x]) := by
  obtain ⟨n1, n2, n3⟩ := hX i b o _ c hi he
  have hblk : ∀ k, k ≠ b → (w.setCell ⟨b, o + (R i).length, none⟩ (.int .i64 x)).heap[k]? = w.heap[k]? := fun k hk => heap_setCell_other w ⟨b, o + (R i).length, none⟩ k _ hk
  have hcl : ∀ k, k ≠ o + (R i).length → (w.setCell ⟨b, o + (R i).length, none⟩ (.int .i64 x)).cell? ⟨b, k, none⟩ = w.cell? ⟨b, k, none⟩ := fun k hk => by
    apply World.cell?_setCell_other
    intro e
    exact hk (by cases e; rfl)
  have hme : (w.setCell ⟨b, o + (R i).length, none⟩ (.int .i64 x)).cell? ⟨b, o + (R i).length, none⟩ = some (.int .i64 x) := World.cell?_setCell_same' _ _ _ (hS.spare _ hroom)
  have hsz : (w.setCell ⟨b, o + (R i).length, none⟩ (.int .i64 x)).heap.size = w.heap.size := World.size_setCell ..
  refine ⟨h.ok, h.n0, h.n1, (World.cell?_of_block (w := w) (a := ⟨lp, 0, none⟩) (hblk lp (by omega))).trans h.c0, (World.cell?_of_block (w := w) (a := ⟨lp, 1, none⟩) (hblk lp (by omega))).trans h.c1, h.b0, h.b1, by rw [hsz]; exact h.lt, h.ne, fun k hk => by rw [hsz]; exact h.flt k hk,
    .inr ⟨b, o, c, rfl, by simp, by simp; omega, hS.max, hS.base, by rw [hsz]; exact hS.lt, fun j hj => ?_, fun j hj => ?_, fun j hj => ?_, hS.ty.elim fun cur hc => ⟨_, heap_setCell_same w b _ _ _ _ hc⟩⟩, by simp, D, hs, hD.setCell (a := ⟨b, o + (R i).length, none⟩) (by show mb ≠ b; omega) _, hF, fun j hj hji => ?_, hX, hY,
    fun b' o' m c' e => by cases e; exact ⟨n1, n2, n3⟩, fun j b' o1 m1 c1 o2 m2 c2 hj hji e e2 => ?_⟩
  · by_cases ej : j = (R i).length
    · subst ej
      rw [hme]
      simp [List.getD]
    · have hj' : j < (R i).length := by simp at hj; omega
      rw [hcl _ (by omega), hS.cell j hj']
      simp [List.getD, List.getElem?_append_left hj']
  · by_cases ej : j = (R i).length
    · subst ej
      rw [hme]
      rfl
    · rw [hcl _ (by omega)]
      exact hS.spare j hj
  · rw [World.frozen?_setCell]
    exact hS.froz j hj
  · rcases hR j hj with hn | ⟨b', o', c', e2, hs2⟩
    · exact .inl hn
    · exact .inr ⟨b', o', c', e2, hs2.keep (hblk b' (fun e => hji (by subst e; exact hY _ _ _ _ _ _ _ _ _ hj hi e2 he)))⟩
  · cases e2
    exact hji (hY _ _ _ _ _ _ _ _ _ hj hi e he)
theorem info_intX : ∃ i, Tryz.prog.info? 3 = some i ∧ i.zero = some (.int .i64 0) ∧ i.size = 1 ∧ i.bytes = 8 := by
  obtain ⟨i, hi, hz⟩ := Option.map_eq_some_iff.1 info_intL
  simp only [Prod.mk.injEq] at hz
  exact ⟨i, hi, hz⟩
theorem setCells_one (w : World) (b o : Nat) (v : Value) : w.setCells b o [v] = w.setCell ⟨b, o, none⟩ v := rfl
theorem alloc_below (w : World) (o : Obj) : Below w.heap.size w (w.alloc o) := (Below.refl w.heap.size w).alloc (Nat.le_refl _) o
theorem any_none (who : Int) (xs : List Int) (h : xs = []) : xs.any (fun y => who == y) = false := by subst h; rfl
theorem KeptZ.step {w w' w2 : World} {base lp mb n : Nat} {R : Int → List Int} (hL : LkAt Z w base lp mb n R) (h1 : KeptZ Z w w') (hs : w.heap.size ≤ w'.heap.size) (hk2 : ∀ k, k < w'.heap.size → k ≠ mb → w2.heap[k]? = w'.heap[k]?) : KeptZ Z w w2 :=
  fun k hk => (hk2 k (Nat.lt_of_lt_of_le (hL.flt k hk).1 hs) (hL.flt k hk).2).trans (h1 k hk)
theorem KeptZ.below {w w' : World} {base lp mb n : Nat} {R : Int → List Int} (hL : LkAt Z w base lp mb n R) (hb : Below w.heap.size w w') : KeptZ Z w w' := fun k hk => hb.block k (hL.flt k hk).1
set_option maxHeartbeats 4000000 in
theorem take_c (who at_ : Int) (base lp mb n : Nat) (R : Int → List Int) (w : World) (h : LkAt Z w base lp mb n R) (ha : InI at_) :
    Calls Tryz.prog 62 #[.pointer (some ⟨lp, 0, none⟩), .int .i64 who, .int .i64 at_] w fun e w' => e = .returned (.bool (Lk.takeT R n who at_)) ∧ LkAt Z w' base lp mb n (Lk.take R n who at_) ∧ Below base w w' ∧ KeptZ Z w w' := by
  have HL := Lib.hid (show LkV w (.pointer (some ⟨lp, 0, none⟩)) n R from .inr ⟨_, base, lp, mb, rfl, h⟩)
  have HH := Lib.hid h
  have hbase : base ≤ w.heap.size := by have := h.b0; have := h.lt; omega
  obtain ⟨D, hs, hD, hF, hR, hX, hY⟩ := h.own
  have HRow := Lib.hid (rowH_c at_ base lp mb n R w h hD hF ha)
  have HD := Lib.hid hD
  have HF := Lib.hid hF
  have HR := Lib.hid hR
  have HX := Lib.hid hX
  have HY := Lib.hid hY
  have hlen := h.ok.len at_
  clear h hD hF hR hX hY
  go_enter Tryz.func62, Tryz.ntmps62
  go_wp2_with fail
  refine (lhas_c _ who at_ _ _ _ HL.out).mono ?_
  rintro e w' ⟨rfl, rfl⟩
  cases hh : Lk.has who at_ n
  · have HT := Lib.hid (show Lk.takeT R n who at_ = false by unfold Lk.takeT; rw [hh]; rfl)
    have HN := Lib.hid (show Lk.take R n who at_ = R by unfold Lk.take; rw [hh]; simp)
    go_wp2_with fail
    go_ret
    exact ⟨by rw [HT.out]; rfl, by rw [HN.out]; exact HH.out, Below.refl _ _, KeptZ.refl _⟩
  · have HHH := Lib.hid hh
    obtain ⟨a1, a2, a3, a4⟩ := Lk.has_iff.1 hh
    clear hh
    go_wp2_with fail
    refine HRow.out.mono ?_
    rintro e w' ⟨rfl, rfl⟩
    rcases HR.out at_ ha with ⟨e2, e3⟩ | ⟨b, o, c, e2, hS⟩
    · -- the lock is free
      have HC := Lib.hid (any_none who (R at_) e3)
      have HN := Lib.hid (show Lk.take R n who at_ = Lk.upd R at_ [who] by unfold Lk.take; rw [HHH.out, HC.out, e3]; simp)
      have HT := Lib.hid (show Lk.takeT R n who at_ = true by unfold Lk.takeT; rw [HHH.out, HN.out, Lk.upd_same]; simp)
      have HOK := Lib.hid (show Lk.Ok (Lk.upd R at_ [who]) n by have := Lk.ok_take HH.out.ok HHH.out HC.out; rwa [e3] at this)
      rw [e2, show hdV none = Value.slice none 0 0 from rfl]
      clear e2 e3 HR HX HY HD HF HRow
      go_wp2_with fail
      refine (contains_c none 0 [] _ _ (.inl rfl) (by simp)).mono ?_
      rintro e w' ⟨rfl, rfl⟩
      go_wp2_with (at_builtin; refine wpList_push rfl _ _ 45 rfl w.heap.size 3 _ 1 8 Tryz.underlying45 info_intL rfl (by omega) (by omega) (.slice none 0 0) 0 [] rfl (World.ownsRow_nil _ _ _ _) #[.int .i64 who] rfl (one_int who) _ rfl rfl (by omega) (Nat.le_refl _) ?_)
      intro v' w' hown hb
      have hown2 := Lib.hid hown
      obtain ⟨x, hx, hM⟩ := HH.out.midNew hb at_ (l := [who]) (by simp) hown
      obtain ⟨g, cap, rfl, hg1, hg2, -⟩ := own_pos hown (by omega)
      have HM := Lib.hid hM
      have HB := Lib.hid (hb.mono hbase)
      have HXX := Lib.hid hx
      have cm := hM.c1
      have hcell := hown2.out.cellAt 0 (by omega)
      have hgm : g ≠ mb := by have := HH.out.mlt; omega
      have HZ1 := Lib.hid (And.intro (KeptZ.below HH.out hb) hb.size)
      clear hb hown hown2 hM hx
      go_wp2_with (at_mapUpdate; refine wpList_lk_put rfl _ _ _ rfl HM.out ha a3 a4 HOK.out rfl rfl HXX.out ?_)
      intro w2 hL2 hb2 hk2
      have c0 := (World.cell?_of_block (w := w') (a := ⟨g, 0, none⟩) (hk2 g hg2 hgm)).trans hcell
      have HL2 := Lib.hid hL2
      have HB2 := Lib.hid (HB.out.trans hb2)
      have HZ2 := Lib.hid (HZ1.out.1.step HH.out HZ1.out.2 hk2)
      clear hL2 hb2 hk2 hcell cm
      go_wp2_with fail
      go_ret
      exact ⟨by rw [HT.out]; rfl, by rw [HN.out]; exact HL2.out, HB2.out, HZ2.out⟩
    · -- it has a row
      have hpos := hS.pos
      have HV := Lib.hid (show Vw w (some ⟨b, o, none⟩) (iV (R at_)) from .inr ⟨b, o, rfl, hS.lt, fun j u hj => by
        have hl : j < (R at_).length := by
          have := (List.getElem?_eq_some_iff.1 hj).1
          rwa [iV_len] at this
        rw [hS.cell j hl, ← hj, iV_at _ j hl]⟩)
      have HS := Lib.hid hS
      have HE2 := Lib.hid e2
      rw [e2, show hdV (some (b, o, (R at_).length, c)) = Value.slice (some ⟨b, o, none⟩) (R at_).length c from rfl]
      have c00 := hS.cell 0 hpos
      rw [Nat.add_zero] at c00
      clear hS e2 HRow
      go_wp2_with fail
      refine (contains_c _ _ _ _ _ HV.out (by omega)).mono ?_
      rintro e w' ⟨rfl, rfl⟩
      cases hc : (R at_).any (fun y => who == y)
      · have HC := Lib.hid hc
        have HN := Lib.hid (show Lk.take R n who at_ = Lk.upd R at_ (R at_ ++ [who]) by unfold Lk.take; rw [HHH.out, hc]; simp)
        have HT := Lib.hid (show Lk.takeT R n who at_ = ((R at_).getD 0 0 == who) by
          unfold Lk.takeT
          rw [HHH.out, HN.out, Lk.upd_same, Bool.true_and, List.getD, List.getD, List.getElem?_append_left hpos])
        have HOK := Lib.hid (Lk.ok_take HH.out.ok HHH.out hc)
        have hal := alloc_below w (.cells #[.int .i64 who] 3)
        have HA := Lib.hid hal
        have hS1 := HS.out.keep (hal.block b HS.out.lt)
        have HL1 := Lib.hid (HH.out.low hal)
        have HX1 := Lib.hid (CsAt.new w 3 #[.int .i64 who])
        have HS1 := Lib.hid hS1
        have HM := Lib.hid (fun hr => HL1.out.midRoom (HD.out.alloc _) HF.out (fun i hi => (HR.out i hi).low HA.out) HX.out HY.out at_ who ha HE2.out HS1.out hr)
        have HSZ := Lib.hid (show (w.alloc (.cells #[.int .i64 who] 3)).heap.size = w.heap.size + 1 by simp)
        have HLE := Lib.hid (show (iV (R at_)).length = (R at_).length * 1 by rw [iV_len, Nat.mul_one])
        have HOL := Lib.hid (show ∀ j u, (iV (R at_))[j]? = some u → (w.alloc (.cells #[.int .i64 who] 3)).cell? ⟨b, o + j, none⟩ = some u from fun j u hj => by
          have hl : j < (R at_).length := by
            have := (List.getElem?_eq_some_iff.1 hj).1
            rwa [iV_len] at this
          rw [HS1.out.cell j hl, ← hj, iV_at _ j hl])
        have HNW := Lib.hid (show ∀ j u, [Value.int .i64 who][j]? = some u → (w.alloc (.cells #[.int .i64 who] 3)).cell? ((⟨w.heap.size, 0, none⟩ : Addr).add j) = some u from fun j u hj => by
          rw [add_plain, Nat.zero_add, HX1.out.cell]
          simpa using hj)
        have HSP := Lib.hid (show (R at_).length + 1 ≤ c → ∀ j, j < [Value.int .i64 who].length → ((w.alloc (.cells #[.int .i64 who] 3)).cell? ⟨b, o + (R at_).length * 1 + j, none⟩).isSome = true ∧ (w.alloc (.cells #[.int .i64 who] 3)).frozen? ⟨b, o + (R at_).length * 1 + j, none⟩ = false from fun hr j hj => by
          have : j = 0 := by simpa using hj
          subst this
          rw [Nat.mul_one, Nat.add_zero]
          exact ⟨HS1.out.spare _ (by omega), HS1.out.froz _ (by omega)⟩)
        obtain ⟨ii, hii, hz0, hz1, hz2⟩ := info_intX
        have HLEN := Lib.hid hlen
        have HBM := Lib.hid (HX.out at_ b o _ c ha HE2.out)
        have HBS := Lib.hid HS.out.base
        have HML := Lib.hid HH.out.mlt
        clear hS1 hal hc HR HX HY HD HF
        go_wp2_with (at_builtin; refine wpList_append_arg _ rfl _ _ 45 rfl 3 ii (.int .i64 0) 1 8 Tryz.underlying45 hii hz0 hz1 hz2 rfl (by decide) b o (R at_).length c (iV (R at_)) rfl HLE.out HOL.out ⟨w.heap.size, 0, none⟩ 1 1 [.int .i64 who] rfl rfl HNW.out (by simp [Value.oneCell']) HSP.out (by unfold maxLen; omega) (by omega) ?_ ?_)
        · intro hroom
          have hM := HM.out (by omega)
          have hB1 := HA.out.mono hbase |>.setCell (p := ⟨b, o + (R at_).length, none⟩) HBS.out (.int .i64 who)
          rw [setCells_one]
          have HZ1 := Lib.hid (show KeptZ Z w ((w.alloc (.cells #[.int .i64 who] 3)).setCell ⟨b, o + (R at_).length, none⟩ (.int .i64 who)) ∧ w.heap.size ≤ ((w.alloc (.cells #[.int .i64 who] 3)).setCell ⟨b, o + (R at_).length, none⟩ (.int .i64 who)).heap.size from
            ⟨fun k hk => (heap_setCell_other _ ⟨b, o + (R at_).length, none⟩ k _ (show k ≠ b from fun e => HBM.out.2.2 (e ▸ hk))).trans (HA.out.block k (HH.out.flt k hk).1), by rw [World.size_setCell]; exact HA.out.size⟩)
          have hbl : b < ((w.alloc (.cells #[.int .i64 who] 3)).setCell ⟨b, o + (R at_).length, none⟩ (.int .i64 who)).heap.size := by rw [World.size_setCell]; exact HS1.out.lt
          generalize (w.alloc (.cells #[.int .i64 who] 3)).setCell ⟨b, o + (R at_).length, none⟩ (.int .i64 who) = W2 at *
          have hcc : W2.cell? ⟨b, o, none⟩ = some (.int .i64 ((R at_).getD 0 0)) := by
            rcases hM.new with ⟨e, -⟩ | ⟨b', o', c', e, hS'⟩
            · cases e
            · cases e
              have := hS'.cell 0 (by simp)
              rw [Nat.add_zero, List.getD, List.getElem?_append_left hpos] at this
              exact this
          have HVV := Lib.hid (show Value.slice (some ⟨b, o, none⟩) ((R at_).length + 1) c = hdV (some (b, o, (R at_ ++ [who]).length, c)) by simp [hdV])
          have HM2 := Lib.hid hM
          have HB1 := Lib.hid hB1
          have cm := hM.c1
          clear hM hB1 HM HSP HNW HOL HX1 HS1 HA HL1 HSZ
          go_wp2_with (at_mapUpdate; refine wpList_lk_put rfl _ _ _ rfl HM2.out ha a3 a4 HOK.out rfl rfl HVV.out ?_)
          intro w2 hL2 hb2 hk2
          have c0 := (World.cell?_of_block (w := W2) (a := ⟨b, o, none⟩) (hk2 b hbl HBM.out.2.1)).trans hcc
          have HL2 := Lib.hid hL2
          have HB2 := Lib.hid (HB1.out.trans hb2)
          have g : (0 : Int) < ((R at_).length + 1 : Nat) := by omega
          generalize hy : (R at_).getD 0 0 = y at *
          have HZ2 := Lib.hid (HZ1.out.1.step HH.out HZ1.out.2 hk2)
          clear hL2 hb2 hk2 hcc cm
          go_wp2_with fail
          go_ret
          exact ⟨by rw [HT.out]; rfl, by rw [HN.out]; exact HL2.out, HB2.out, HZ2.out⟩
        · intro hfull v' w' hown hg
          have hb := (Below.refl (w.alloc (.cells #[.int .i64 who] 3)).heap.size (w.alloc (.cells #[.int .i64 who] 3))).grown hg (Nat.le_refl _) (fun r hr => by cases hr)
          have hown2 : w'.ownsRow (w.alloc (.cells #[.int .i64 who] 3)).heap.size 3 1 v' (R at_ ++ [who]).length (iV (R at_ ++ [who])) := by simpa using hown
          obtain ⟨x, hx, hM⟩ := HL1.out.midNew hb at_ (l := R at_ ++ [who]) (by simp) hown2
          obtain ⟨g, cap, rfl, hg1, hg2, -⟩ := own_pos hown (by omega)
          have HM2 := Lib.hid hM
          have HB := Lib.hid ((HA.out.mono hbase).trans (hb.mono (by have := HSZ.out; omega)))
          have HXX := Lib.hid hx
          have cm := hM.c1
          have hcell := hown.cellAt 0 (by omega)
          have hcc : w'.cell? ⟨g, 0, none⟩ = some (.int .i64 ((R at_).getD 0 0)) := by
            rw [hcell, List.getElem?_append_left (by rw [iV_len]; exact hpos), iV_at _ 0 hpos]
          have hgm : g ≠ mb := by have := HML.out; have := HSZ.out; omega
          have HZ1 := Lib.hid (And.intro (KeptZ.below HH.out (HA.out.trans (hb.mono HA.out.size))) (HA.out.trans (hb.mono HA.out.size)).size)
          clear hb hown hown2 hM hx hcell HM HSP HNW HOL HX1 HS1 HA HSZ hg
          go_wp2_with (at_mapUpdate; refine wpList_lk_put rfl _ _ _ rfl HM2.out ha a3 a4 HOK.out rfl rfl HXX.out ?_)
          intro w2 hL2 hb2 hk2
          have c0 := (World.cell?_of_block (w := w') (a := ⟨g, 0, none⟩) (hk2 g hg2 hgm)).trans hcc
          have HL2 := Lib.hid hL2
          have HB2 := Lib.hid (HB.out.trans hb2)
          have gg : (0 : Int) < ((R at_).length + 1 : Nat) := by omega
          generalize hy : (R at_).getD 0 0 = y at *
          have HZ2 := Lib.hid (HZ1.out.1.step HH.out HZ1.out.2 hk2)
          clear hL2 hb2 hk2 hcc cm
          go_wp2_with fail
          go_ret
          exact ⟨by rw [HT.out]; rfl, by rw [HN.out]; exact HL2.out, HB2.out, HZ2.out⟩
      · have HC := Lib.hid hc
        have HN := Lib.hid (show Lk.take R n who at_ = R by unfold Lk.take; rw [HHH.out, hc]; simp)
        have HT := Lib.hid (show Lk.takeT R n who at_ = ((R at_).getD 0 0 == who) by unfold Lk.takeT; rw [HHH.out, HN.out]; rfl)
        have g : (0 : Int) < (R at_).length := by omega
        generalize hy : (R at_).getD 0 0 = y at *
        clear hc
        go_wp2_with fail
        go_ret
        exact ⟨by rw [HT.out]; rfl, by rw [HN.out]; exact HH.out, Below.refl _ _, KeptZ.refl _⟩
end Go.Proofs.YtjeolfcefeglpabGreat
set_option maxRecDepth 20000
namespace Go.Proofs.YtjeolfcefeglpabGreat
open Go.ChangeShapes Go.WideShapes Go.ChangeAt Go.RowKit

theorem lcompact_none (p : Option Addr) (cap : Nat) (w : World) : Calls Tryz.prog 27 #[.slice p 0 cap] w fun e w' => e = .returned (.slice p 0 cap) ∧ w' = w := by
  go_enter Tryz.func27, Tryz.ntmps27
  go_wp2_with fail
  go_ret
  exact ⟨rfl, rfl⟩
theorem sortO_c (base : Nat) (v : Value) (xs : List Int) (w : World) (hI : w.ownsRow base 3 1 v xs.length (iV xs)) (hlen : xs.length ≤ 12) :
    Calls Tryz.prog 26 #[v] w fun e w' => e = .returned (.tuple #[]) ∧ w'.ownsRow base 3 1 v xs.length (iV (Srt.sorted xs xs.length)) ∧ Below base w w' := by
  by_cases h0 : xs.length = 0
  · obtain ⟨p, cap, rfl, -, -, -⟩ := own_form2 hI
    obtain rfl : xs = [] := List.length_eq_zero_iff.1 h0
    refine (sort_none p cap w).mono ?_
    rintro e w' ⟨rfl, rfl⟩
    exact ⟨rfl, hI, Below.refl _ _⟩
  · obtain ⟨g, cap, rfl, -, -, -⟩ := own_pos hI (by omega)
    refine (sort_c base g cap xs w ⟨hI⟩ (by omega) hlen).mono ?_
    rintro e w' ⟨rfl, hs⟩
    have := hs.row.own
    rw [Srt.sorted_len] at this
    exact ⟨rfl, this, hs.bel⟩
theorem compactO_c (base : Nat) (v : Value) (xs : List Int) (w : World) (hb : base ≤ w.heap.size) (hI : w.ownsRow base 3 1 v xs.length (iV xs)) (hlen : xs.length ≤ 1000000) :
    Calls Tryz.prog 27 #[v] w fun e w' => ∃ v', e = .returned v' ∧ w'.ownsRow base 3 1 v' (Srt.comp xs xs.length).length (iV (Srt.comp xs xs.length)) ∧ Below base w w' := by
  by_cases h0 : xs.length = 0
  · obtain ⟨p, cap, rfl, -, -, -⟩ := own_form2 hI
    obtain rfl : xs = [] := List.length_eq_zero_iff.1 h0
    refine (lcompact_none p cap w).mono ?_
    rintro e w' ⟨rfl, rfl⟩
    exact ⟨_, rfl, hI, Below.refl _ _⟩
  · obtain ⟨g, cap, rfl, -, -, -⟩ := own_pos hI (by omega)
    refine (compact_c base g cap xs w ⟨hI⟩ (by omega) hlen).mono ?_
    rintro e w' ⟨rfl, h1, h2⟩
    exact ⟨_, rfl, h1.own, h2⟩
/-- A job's cells. -/
abbrev jV (v : Value) (took gave : Int) (did : Bool) : Array Value := #[v, .int .i64 took, .int .i64 gave, .bool did]
theorem info_job : (Tryz.prog.info? 47).map (·.size) = some 4 := by kernel_rfl
theorem below_setRowL {B : Nat} {w w' : World} (h : Below B w w') {g : Nat} (hg : B ≤ g) (cs : Array Value) : Below B w (w'.setRow g cs) := by
  refine ⟨h.os, h.tape, h.output, ?_, fun k hk => ?_⟩
  · simpa [World.setRow] using h.size
  · rw [setRow_other w' g k cs (by omega)]
    exact h.block k hk
theorem own_farRow {w : World} {base : Nat} {e : TypeId} {size : Nat} {v : Value} {n : Nat} {xs : List Value} (h : w.ownsRow base e size v n xs) {c : Nat} (hc : c < base) (cs : Array Value) : (w.setRow c cs).ownsRow base e size v n xs := by
  refine ⟨h.1, h.2.imp id ?_⟩
  rintro ⟨g, cap, cur, rfl, h1, h2, h3⟩
  exact ⟨g, cap, cur, rfl, h1, (setRow_other w c g cs (by omega)).trans h2, h3⟩
set_option maxHeartbeats 2000000 in
theorem plan_c (p : Option Addr) (cap : Nat) (xs : List Int) (w : World) (hv : Vw w p (iV xs)) (hp : p = none → cap = 0) (hlen : xs.length ≤ 12) :
    Calls Tryz.prog 9 #[.slice p xs.length cap] w fun e w' => ∃ v, e = .returned (.agg (jV v 0 0 false)) ∧ w'.ownsRow w.heap.size 3 1 v (Srt.set xs).length (iV (Srt.set xs)) ∧ Below w.heap.size w w' := by
  have hb1 := alloc_below w (.cells (jV (.slice none 0 0) 0 0 false) 47)
  have HB := Lib.hid hb1
  have HC := Lib.hid (CsAt.new w 47 (jV (.slice none 0 0) 0 0 false))
  have HV := Lib.hid (hv.low hb1)
  clear hb1 hv
  go_enter Tryz.func9, Tryz.ntmps9
  go_upto_region 1 with (fail)
  generalize w.alloc (.cells (jV (.slice none 0 0) 0 0 false) 47) = w1 at *
  go_wp2_with fail
  refine (clone_w p cap xs w1 HV.out hp (by omega)).mono ?_
  rintro e w2 ⟨v, rfl, hown, hb2⟩
  have HO2 := Lib.hid hown
  have HB2 := Lib.hid hb2
  clear hown hb2
  go_wp2_with fail
  refine (sortO_c _ _ _ _ HO2.out hlen).mono ?_
  rintro e w3 ⟨rfl, hown, hb3⟩
  have HO3 := Lib.hid (show w3.ownsRow w1.heap.size 3 1 v (Srt.sorted xs xs.length).length (iV (Srt.sorted xs xs.length)) by rw [Srt.sorted_len]; exact hown)
  have HB3 := Lib.hid (HB2.out.trans hb3)
  clear hown hb3
  go_wp2_with fail
  refine (compactO_c w1.heap.size _ _ _ HB3.out.size HO3.out (by rw [Srt.sorted_len]; omega)).mono ?_
  rintro e w4 ⟨v4, rfl, hown, hb4⟩
  rw [Srt.sorted_len] at hown
  obtain ⟨p4, cap4, rfl, -, -, -⟩ := own_form2 hown
  have HO4 := Lib.hid (show w4.ownsRow w1.heap.size 3 1 (.slice p4 (Srt.set xs).length cap4) (Srt.set xs).length (iV (Srt.set xs)) from hown)
  have HB4 := Lib.hid (HB3.out.trans hb4)
  have HC4 := Lib.hid (HC.out.low HB4.out)
  have HE := Lib.hid (show Srt.comp (Srt.sorted xs xs.length) xs.length = Srt.set xs from rfl)
  rw [HE.out]
  clear hown hb4
  go_wp2_with (refine wpList_store_row rfl 47 _ _ rfl w.heap.size _ rfl rfl 47 _ HC4.out info_job rfl (by simp [Value.oneCell']) ?_)
  refine bodyPost_ret (results_cell_row Tryz.results9 _ _ w.heap.size _ _ _ _ rfl (HC4.out.row _) Tryz.underlying47 rfl info_job) rfl ⟨_, rfl, own_mono (own_farRow HO4.out HC.out.lt _) (Nat.le_of_lt HC.out.lt), below_setRowL (HB.out.trans (HB4.out.mono HB.out.size)) (Nat.le_refl _) _⟩
/-- A job lies there. -/
structure JobAt (W : World) (b off : Nat) (v : Value) (took gave : Int) (did : Bool) : Prop where
  c0 : W.cell? ⟨b, off, none⟩ = some v
  c1 : W.cell? ⟨b, off + 1, none⟩ = some (.int .i64 took)
  c2 : W.cell? ⟨b, off + 2, none⟩ = some (.int .i64 gave)
  c3 : W.cell? ⟨b, off + 3, none⟩ = some (.bool did)
  f1 : W.frozen? ⟨b, off + 1, none⟩ = false
  f2 : W.frozen? ⟨b, off + 2, none⟩ = false
  f3 : W.frozen? ⟨b, off + 3, none⟩ = false
theorem done_nil (w : World) : Calls Tryz.prog 16 #[.pointer none] w fun e w' => e = .returned (.bool true) ∧ Below w.heap.size w w' := by
  go_enter Tryz.func16, Tryz.ntmps16
  go_wp2_with fail
  go_quiet (fail)
  have HB := Lib.hid (below_dnS (Below.refl w.heap.size w) nq)
  go_wp2_with fail
  go_ret
  exact ⟨rfl, HB.out⟩
theorem step_nil (lv : Value) (who : Int) (f : Value) (w : World) : Calls Tryz.prog 11 #[.pointer none, lv, .int .i64 who, f] w fun e w' => e = .returned (.int .i64 4) ∧ Below w.heap.size w w' := by
  go_enter Tryz.func11, Tryz.ntmps11
  go_wp2_with fail
  refine (done_nil _).mono ?_
  rintro e w1 ⟨rfl, hb⟩
  have HB := Lib.hid hb
  clear hb
  go_wp2_with fail
  go_ret
  exact ⟨rfl, HB.out⟩
end Go.Proofs.YtjeolfcefeglpabGreat
set_option maxRecDepth 20000
namespace Go.Proofs.YtjeolfcefeglpabGreat
open Go.ChangeShapes Go.WideShapes Go.ChangeAt Go.RowKit
variable {Z : Nat → Prop}

namespace Lk
def dropT (R : Int → List Int) (who at_ : Int) : Bool := decide (R at_ ≠ []) && ((R at_).getD 0 0 == who)
/-- The rows when a lock has been given back. -/
def drop (R : Int → List Int) (who at_ : Int) : Int → List Int := if dropT R who at_ = true then upd R at_ (R at_).tail else R
theorem ok_tail {R : Int → List Int} {n : Nat} (h : Ok R n) {i : Int} (hi : R i ≠ []) : Ok (upd R i (R i).tail) n := by
  refine ⟨fun j hj => ?_, fun j x hx => ?_, fun j => ?_⟩
  · by_cases e : j = i
    · subst e; exact absurd (h.out _ hj) hi
    · rw [upd_other R _ e]; exact h.out j hj
  · by_cases e : j = i
    · subst e
      rw [upd_same] at hx
      exact h.who _ _ (List.mem_of_mem_tail hx)
    · rw [upd_other R _ e] at hx; exact h.who _ _ hx
  · by_cases e : j = i
    · subst e
      rw [upd_same]
      exact (h.nod j).sublist (List.tail_sublist _)
    · rw [upd_other R _ e]; exact h.nod j
theorem in_range {R : Int → List Int} {n : Nat} (h : Ok R n) {i : Int} (hi : R i ≠ []) : 0 ≤ i ∧ i < (n : Int) := by
  by_cases e : 0 ≤ i ∧ i < (n : Int)
  · exact e
  · exact absurd (h.out i e) hi
end Lk
theorem FitsL.del {D : DataW Unit} {n : Nat} {hs : Int → Hdr} {R : Int → List Int} (h : FitsL D n hs R) (ht : Maps.Tidy D) {i : Int} (hi : InI i) (h0 : 0 ≤ i) (h1 : i < n) :
    FitsL (D.del (kL i)) n (fun j => if j = i then none else hs j) (Lk.upd R i []) := by
  have hne : ∀ j, j ≠ i → kL j ≠ kL i := fun j hji e => hji (kL_inj e)
  refine ⟨fun j hj => ?_, fun j hj => ?_, ?_⟩
  · by_cases e : j = i
    · subst e; rw [Maps.atKey_del_same, if_pos rfl]
    · rw [Maps.atKey_del_other (hne j e), if_neg e, h.at_ j hj]
  · by_cases e : j = i
    · subst e; rw [Maps.has_del_same, Lk.upd_same]; simp
    · rw [Maps.has_del_other (hne j e), Lk.upd_other R _ e, h.has j hj]
  · obtain ⟨k, rfl⟩ := Int.eq_ofNat_of_zero_le h0
    have c := Lk.cnt_upd R k [] n (by omega)
    have hs := Maps.size_del (k := kL k) ht
    rw [h.has _ hi, h.size] at hs
    rw [if_pos rfl] at c
    by_cases e : R k = []
    · rw [if_pos e] at c
      simp [e] at hs
      omega
    · rw [if_neg e] at c
      simp [e] at hs
      omega
theorem LkAt.gone {w w' : World} {base lp mb n : Nat} {R : Int → List Int} (h : LkAt Z w base lp mb n R) {i : Int} (hi : InI i) (h0 : 0 ≤ i) (h1 : i < n) (hok : Lk.Ok (Lk.upd R i []) n)
    {D : DataW Unit} {hs : Int → Hdr} (hD : w.ownsMap Tryz.prog KI rowElem mb (Maps.size D) D) (hF : FitsL D n hs R) (hR : ∀ j, InI j → Rw w base (hs j) (R j)) (hX : ∀ j b o m c, InI j → hs j = some (b, o, m, c) → b ≠ lp ∧ b ≠ mb ∧ ¬ Z b)
    (hY : ∀ i j b o m c o' m' c', InI i → InI j → hs i = some (b, o, m, c) → hs j = some (b, o', m', c') → i = j) {k : Nat}
    (hD' : w'.ownsMap Tryz.prog KI rowElem mb k (D.del (kL i))) (hg : w.grownBy w' (some mb)) : LkAt Z w' base lp mb n (Lk.upd R i []) ∧ Below base w w' := by
  have hbl : ∀ b, b < w.heap.size → b ≠ mb → w'.heap[b]? = w.heap[b]? := fun b hb hne => hg.block b hb (fun e => hne (by cases e; rfl))
  have hmlt : mb < w.heap.size := hD.lt
  refine ⟨⟨hok, h.n0, h.n1, (World.cell?_of_block (w := w) (a := ⟨lp, 0, none⟩) (hbl lp h.lt h.ne)).trans h.c0, (World.cell?_of_block (w := w) (a := ⟨lp, 1, none⟩) (hbl lp h.lt h.ne)).trans h.c1, h.b0, h.b1, Nat.lt_of_lt_of_le h.lt hg.size, h.ne, fun k hk => ⟨Nat.lt_of_lt_of_le (h.flt k hk).1 hg.size, (h.flt k hk).2⟩,
    _, _, own_resetL hD', hF.del (hD.tidy int_law) hi h0 h1, fun j hj => ?_, fun j b o m c hj e => ?_, ?_⟩, ⟨hg.os, hg.tape, hg.output, hg.size, fun b hb => hbl b (Nat.lt_of_lt_of_le hb (by have := h.b1; omega)) (by have := h.b1; omega)⟩⟩
  · by_cases e : j = i
    · subst e
      simp only [if_true]
      rw [Lk.upd_same]
      exact .inl ⟨rfl, rfl⟩
    · simp only [if_neg e]
      rw [Lk.upd_other R _ e]
      rcases hR j hj with hn | ⟨b, o, c, e2, hs2⟩
      · exact .inl hn
      · exact .inr ⟨b, o, c, e2, hs2.keep (hbl b hs2.lt (hX _ _ _ _ _ hj e2).2.1)⟩
  · by_cases e3 : j = i
    · simp only [if_pos e3] at e
      cases e
    · simp only [if_neg e3] at e
      exact hX _ _ _ _ _ hj e
  · intro j k b o m c o' m' c' hj hk e1 e2
    by_cases a1 : j = i
    · simp only [if_pos a1] at e1
      cases e1
    · by_cases a2 : k = i
      · simp only [if_pos a2] at e2
        cases e2
      · simp only [if_neg a1] at e1
        simp only [if_neg a2] at e2
        exact hY _ _ _ _ _ _ _ _ _ hj hk e1 e2
/-- A row without its first number. -/
theorem RwS.tail {w : World} {base b o c : Nat} {xs : List Int} (h : RwS w base b o c xs) (h1 : 1 < xs.length) : RwS w base b (o + 1) (c - 1) xs.tail := by
  have hle := h.le
  have hm := h.max
  refine ⟨by rw [List.length_tail]; omega, by rw [List.length_tail]; omega, by omega, h.base, h.lt, fun j hj => ?_, fun j hj => ?_, fun j hj => ?_, h.ty⟩
  · rw [List.length_tail] at hj
    rw [show o + 1 + j = o + (j + 1) by omega, h.cell (j + 1) (by omega)]
    cases xs with
    | nil => simp at h1
    | cons x l => rfl
  · rw [show o + 1 + j = o + (j + 1) by omega]
    exact h.spare (j + 1) (by omega)
  · rw [show o + 1 + j = o + (j + 1) by omega]
    exact h.froz (j + 1) (by omega)
theorem LkAt.midTail {w : World} {base lp mb n : Nat} {R : Int → List Int} (h : LkAt Z w base lp mb n R) {D : DataW Unit} {hs : Int → Hdr} (hD : w.ownsMap Tryz.prog KI rowElem mb (Maps.size D) D) (hF : FitsL D n hs R) (hR : ∀ i, InI i → Rw w base (hs i) (R i)) (hX : ∀ i b o m c, InI i → hs i = some (b, o, m, c) → b ≠ lp ∧ b ≠ mb ∧ ¬ Z b)
    (hY : ∀ i j b o m c o' m' c', InI i → InI j → hs i = some (b, o, m, c) → hs j = some (b, o', m', c') → i = j) (i : Int) (hi : InI i) {b o c : Nat} (he : hs i = some (b, o, (R i).length, c)) (hS : RwS w base b o c (R i)) (h1 : 1 < (R i).length) :
    LkMid Z w base lp mb n R i (some (b, o + 1, (R i).tail.length, c - 1)) (R i).tail :=
  ⟨h.ok, h.n0, h.n1, h.c0, h.c1, h.b0, h.b1, h.lt, h.ne, h.flt, .inr ⟨b, o + 1, c - 1, rfl, hS.tail h1⟩, fun e => by have := congrArg List.length e; rw [List.length_tail] at this; simp at this; omega, D, hs, hD, hF, fun j hj _ => hR j hj, hX, hY,
    fun b' o' m c' e => by cases e; exact hX i _ _ _ _ hi he, fun j b' o1 m1 c1 o2 m2 c2 hj hji e e2 => by cases e2; exact hji (hY _ _ _ _ _ _ _ _ _ hj hi e he)⟩
theorem LkMid.low {w w' : World} {base lp mb n : Nat} {R : Int → List Int} {i : Int} {x : Hdr} {l : List Int} (h : LkMid Z w base lp mb n R i x l) (hb : Below w.heap.size w w') : LkMid Z w' base lp mb n R i x l := by
  obtain ⟨D, hs, hD, hF, hR, hX, hY, hx, hy⟩ := h.own
  exact ⟨h.ok, h.n0, h.n1, (hb.cell (p := ⟨lp, 0, none⟩) h.lt).trans h.c0, (hb.cell (p := ⟨lp, 1, none⟩) h.lt).trans h.c1, h.b0, h.b1, Nat.lt_of_lt_of_le h.lt hb.size, h.ne, fun k hk => ⟨Nat.lt_of_lt_of_le (h.flt k hk).1 hb.size, (h.flt k hk).2⟩, h.new.low hb, h.full, D, hs,
    hD.kept (row := none) ⟨hb.os, hb.tape, hb.output, hb.size, fun i hi _ => hb.block i hi⟩ (by simp), hF, fun j hj hji => (hR j hj hji).low hb, hX, hY, hx, hy⟩
set_option maxHeartbeats 4000000 in
theorem drop_c (who at_ : Int) (base lp mb n : Nat) (R : Int → List Int) (w : World) (h : LkAt Z w base lp mb n R) (ha : InI at_) :
    Calls Tryz.prog 64 #[.pointer (some ⟨lp, 0, none⟩), .int .i64 who, .int .i64 at_] w fun e w' => e = .returned (.bool (Lk.dropT R who at_)) ∧ LkAt Z w' base lp mb n (Lk.drop R who at_) ∧ Below base w w' ∧ KeptZ Z w w' := by
  have HH := Lib.hid h
  have hbase : base ≤ w.heap.size := by have := h.b0; have := h.lt; omega
  obtain ⟨D, hs, hD, hF, hR, hX, hY⟩ := h.own
  have HRow := Lib.hid (rowH_c at_ base lp mb n R w h hD hF ha)
  have HHo := Lib.hid (holder_c (.pointer (some ⟨lp, 0, none⟩)) at_ n R w (.inr ⟨_, base, lp, mb, rfl, h⟩) ha)
  have hlen := h.ok.len at_
  have HD := Lib.hid hD
  have HF := Lib.hid hF
  have HR := Lib.hid hR
  have HX := Lib.hid hX
  have HY := Lib.hid hY
  have cm := h.c1
  clear h hD hF hR hX hY
  rcases HR.out at_ ha with ⟨e2, e3⟩ | ⟨b, o, c, e2, hS⟩
  · have HT := Lib.hid (show Lk.dropT R who at_ = false by unfold Lk.dropT; rw [e3]; rfl)
    have HN := Lib.hid (show Lk.drop R who at_ = R by unfold Lk.drop; rw [HT.out]; simp)
    rw [show decide (R at_ ≠ []) = false by rw [e3]; rfl] at HHo
    generalize (R at_).getD 0 0 = y at *
    go_enter Tryz.func64, Tryz.ntmps64
    go_wp2_with fail
    refine HHo.out.mono ?_
    rintro e w' ⟨rfl, rfl⟩
    go_wp2_with fail
    go_ret
    exact ⟨by rw [HT.out]; rfl, by rw [HN.out]; exact HH.out, Below.refl _ _, KeptZ.refl _⟩
  · have hpos := hS.pos
    have HNE := Lib.hid (show R at_ ≠ [] from fun e => by rw [e] at hpos; simp at hpos)
    rw [show decide (R at_ ≠ []) = true from decide_eq_true HNE.out] at HHo
    have HRG := Lib.hid (Lk.in_range HH.out.ok HNE.out)
    have HOK := Lib.hid (Lk.ok_tail HH.out.ok HNE.out)
    cases hq : ((R at_).getD 0 0 == who)
    · have HT := Lib.hid (show Lk.dropT R who at_ = false by unfold Lk.dropT; rw [hq]; simp)
      have HN := Lib.hid (show Lk.drop R who at_ = R by unfold Lk.drop; rw [HT.out]; simp)
      have hq2 : ((R at_).getD 0 0 != who) = true := by rw [bne, hq]; rfl
      generalize (R at_).getD 0 0 = y at *
      go_enter Tryz.func64, Tryz.ntmps64
      go_wp2_with fail
      refine HHo.out.mono ?_
      rintro e w' ⟨rfl, rfl⟩
      go_wp2_with fail
      go_ret
      exact ⟨by rw [HT.out]; rfl, by rw [HN.out]; exact HH.out, Below.refl _ _, KeptZ.refl _⟩
    · have HT := Lib.hid (show Lk.dropT R who at_ = true by unfold Lk.dropT; rw [hq, decide_eq_true HNE.out]; rfl)
      have HN := Lib.hid (show Lk.drop R who at_ = Lk.upd R at_ (R at_).tail by unfold Lk.drop; rw [HT.out]; simp)
      have hq2 : ((R at_).getD 0 0 != who) = false := by rw [bne, hq]; rfl
      have HS := Lib.hid hS
      have HE2 := Lib.hid e2
      have HE3 := Lib.hid (show hdV (hs at_) = Value.slice (some ⟨b, o, none⟩) (R at_).length c by rw [e2]; rfl)
      have hle := hS.le
      generalize (R at_).getD 0 0 = y at *
      clear hS e2
      go_enter Tryz.func64, Tryz.ntmps64
      go_wp2_with fail
      refine HHo.out.mono ?_
      rintro e w' ⟨rfl, rfl⟩
      go_wp2_with fail
      refine HRow.out.mono ?_
      rintro e w' ⟨rfl, rfl⟩
      rw [HE3.out]
      by_cases h1 : 1 < (R at_).length
      · have g1 : (1 : Int) < (R at_).length := by omega
        go_upto_region 6 with fail
        have HM := Lib.hid (HH.out.midTail HD.out HF.out HR.out HX.out HY.out at_ ha HE2.out HS.out h1)
        have HVV := Lib.hid (show Value.slice (some ⟨b, o + 1, none⟩) ((R at_).length - 1) (c - 1) = hdV (some (b, o + 1, (R at_).tail.length, c - 1)) by rw [List.length_tail]; rfl)
        have g4 : ((R at_).length : Int) ≤ c := by omega
        have g5 : 1 < c := by omega
        refine wp_region_steady_tail (fun W => LkMid Z W base lp mb n R at_ (some (b, o + 1, (R at_).tail.length, c - 1)) (R at_).tail ∧ Below w.heap.size w W) 7 (by kernel_rfl) (by kernel_rfl) ⟨HM.out.low (Below.refl _ _).drew, (Below.refl _ _).drew⟩ ?_
        iterate 6
          refine steady_val ?_ ?_ (by kernel_rfl) (fun W hS => ?_) ?_ ?_
          rotate_left 2
          · have c1 := hS.1.c1; go_simp
            exact rfl
          · go_simp
            exact rfl
        refine steady_val (Value.slice (some ⟨b, o + 1, none⟩) ((R at_).length - 1) (c - 1)) ?_ (by kernel_rfl) (fun W hS => ?_) ?_ ?_
        rotate_left 1
        · go_simp
          rw [if_pos (by omega), if_neg (by omega)]
        · go_simp
          exact rfl
        refine steady_nil ?_
        rintro W ⟨hW1, hW2⟩
        simp only [List.drop_succ_cons, List.drop_zero]
        have HM2 := Lib.hid hW1
        have HB2 := Lib.hid (hW2.mono hbase)
        have HZ1 := Lib.hid (And.intro (KeptZ.below HH.out hW2) hW2.size)
        clear hW1 hW2
        refine wpList_lk_put rfl _ _ _ rfl HM2.out ha HRG.out.1 HRG.out.2 HOK.out rfl rfl HVV.out ?_
        intro w3 h3 o3 hk3
        have HK := Lib.hid (And.intro h3 (HB2.out.trans o3))
        have HZ2 := Lib.hid (HZ1.out.1.step HH.out HZ1.out.2 hk3)
        clear h3 o3 hk3
        go_wp2_with fail
        go_ret
        exact ⟨by rw [HT.out]; rfl, by rw [HN.out]; exact HK.out.1, HK.out.2, HZ2.out⟩
      · have e1 : (R at_).length = 1 := by omega
        have HTL := Lib.hid (show (R at_).tail = [] from len_zero (by rw [List.length_tail]; omega))
        rw [e1]
        go_wp2_with (at_delete; refine wpList_delete_own _ rfl _ _ 95 KI rfl 45 int_law Tryz.underlying95 rowElem mb (Maps.size D) D rfl HD.out _ _ rfl (key_int ha) ?_)
        intro w2 hd hg
        have HG := Lib.hid (HH.out.gone ha HRG.out.1 HRG.out.2 (by have := HOK.out; rwa [HTL.out] at this) HD.out HF.out HR.out HX.out HY.out hd hg.grown)
        have HZ2 := Lib.hid (show KeptZ Z w w2 from fun k hk => hg.grown.block k (HH.out.flt k hk).1 (fun e => (HH.out.flt k hk).2 (by cases e; rfl)))
        clear hd hg
        go_wp2_with fail
        go_ret
        exact ⟨by rw [HT.out]; rfl, by rw [HN.out, HTL.out]; exact HG.out.1, HG.out.2, HZ2.out⟩
end Go.Proofs.YtjeolfcefeglpabGreat
