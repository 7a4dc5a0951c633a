/-
  The law of layer 17: the reference's Same; the law's do.
-/
import Derived.Test.YtihinimgenpijaaUsA
import Derived.Test.YtihinimgenpijaaUrD
import Derived.Test.YtihinimgenpijaaOpenUt
set_option maxRecDepth 20000
namespace Go.Proofs.Ytihinimgenpijaa
open Go.ChangeShapes Go.WideShapes Go.ChangeAt Go.RowKit

/-! The reference's Same. -/
theorem sameU_all (s t : Ut.S) : sameU s t = (!(s.ier != t.ier) && !(s.lcr != t.lcr) && !(s.mcr != t.mcr) && !(s.scr != t.scr) && !(s.dll != t.dll) && !(s.dlm != t.dlm) && (s.fifo == t.fifo) && (s.lost == t.lost) && (s.empty == t.empty) && eqB s.q t.q && eqB s.out t.out) := by
  simp only [sameU, stE, stV, Eqf.eqL, Eqf.eqv, bne, Bool.not_not, Bool.and_true, Bool.and_assoc]
set_option maxHeartbeats 16000000 in
theorem rsame_c (G H : Nat → Prop) (s t : Ut.S) (iv ov jv qv : Value) (w : World) (hi : VwG G w iv s.q) (ho : VwG G w ov s.out) (hj : VwG H w jv t.q) (hq : VwG H w qv t.out) (n1 : s.q.length ≤ 900) (n2 : s.out.length ≤ 900) :
    Calls Try.prog 15 #[.agg (xuV s iv ov), .agg (xuV t jv qv)] w fun e w' => e = .returned (.bool (sameU s t)) ∧ Below w.heap.size w w' := by
  have HU := Lib.hid (sameU_all s t)
  have hba : Below w.heap.size w ((w.alloc (.cells (xuV s iv ov) X17)).alloc (.cells (xuV t jv qv) X17)) := ((Below.refl _ _).alloc (Nat.le_refl _) _).alloc (by simp) _
  have HB := Lib.hid hba
  have hr1 : CsAt ((w.alloc (.cells (xuV s iv ov) X17)).alloc (.cells (xuV t jv qv) X17)) w.heap.size X17 (xuV s iv ov) := (CsAt.new w X17 _).alloc _
  have hr2 : CsAt ((w.alloc (.cells (xuV s iv ov) X17)).alloc (.cells (xuV t jv qv) X17)) (w.heap.size + 1) X17 (xuV t jv qv) := by
    have := CsAt.new (w.alloc (.cells (xuV s iv ov) X17)) X17 (xuV t jv qv)
    rwa [show (w.alloc (.cells (xuV s iv ov) X17)).heap.size = w.heap.size + 1 by simp] at this
  have HR1 := Lib.hid hr1
  have HR2 := Lib.hid hr2
  have HQ := Lib.hid (fun W (hb : Below w.heap.size w W) => rbytes_c iv jv s.q t.q W (hi.low hb).b (hj.low hb).b (by omega))
  have HO := Lib.hid (fun W (hb : Below w.heap.size w W) => rbytes_c ov qv s.out t.out W (ho.low hb).b (hq.low hb).b (by omega))
  obtain ⟨p1, c1, rfl, -⟩ := hi
  obtain ⟨p2, c2, rfl, -⟩ := ho
  obtain ⟨p3, c3, rfl, -⟩ := hj
  obtain ⟨p4, c4, rfl, -⟩ := hq
  clear hba hr1 hr2
  obtain ⟨res, hres⟩ : ∃ res, sameU s t = res := ⟨_, rfl⟩
  rw [hres] at HU ⊢
  clear hres
  generalize eqB s.q t.q = r1 at *
  generalize eqB s.out t.out = r2 at *
  go_enter Try.func15, Try.ntmps15
  go_upto_region 1 with fail
  generalize (w.alloc (.cells (xuV s (.slice p1 s.q.length c1) (.slice p2 s.out.length c2)) X17)).alloc (.cells (xuV t (.slice p3 t.q.length c3) (.slice p4 t.out.length c4)) X17) = w1 at *
  have a0 := HR1.out.cell 0
  have b0 := HR2.out.cell 0
  have a1 := HR1.out.cell 1
  have b1 := HR2.out.cell 1
  have a2 := HR1.out.cell 2
  have b2 := HR2.out.cell 2
  have a3 := HR1.out.cell 3
  have b3 := HR2.out.cell 3
  have a4 := HR1.out.cell 4
  have b4 := HR2.out.cell 4
  have a5 := HR1.out.cell 5
  have b5 := HR2.out.cell 5
  have a6 := HR1.out.cell 6
  have b6 := HR2.out.cell 6
  have a7 := HR1.out.cell 7
  have b7 := HR2.out.cell 7
  have a8 := HR1.out.cell 8
  have b8 := HR2.out.cell 8
  have a9 := HR1.out.cell 9
  have b9 := HR2.out.cell 9
  have a10 := HR1.out.cell 10
  have b10 := HR2.out.cell 10
  simp only [xuV, List.getElem?_toArray, List.getElem?_cons_succ, List.getElem?_cons_zero] at a0 b0 a1 b1 a2 b2 a3 b3 a4 b4 a5 b5 a6 b6 a7 b7 a8 b8 a9 b9 a10 b10
  obtain ⟨e0, he0⟩ : ∃ e, (s.ier != t.ier) = e := ⟨_, rfl⟩
  obtain ⟨e1, he1⟩ : ∃ e, (s.lcr != t.lcr) = e := ⟨_, rfl⟩
  obtain ⟨e2, he2⟩ : ∃ e, (s.mcr != t.mcr) = e := ⟨_, rfl⟩
  obtain ⟨e3, he3⟩ : ∃ e, (s.scr != t.scr) = e := ⟨_, rfl⟩
  obtain ⟨e4, he4⟩ : ∃ e, (s.dll != t.dll) = e := ⟨_, rfl⟩
  obtain ⟨e5, he5⟩ : ∃ e, (s.dlm != t.dlm) = e := ⟨_, rfl⟩
  obtain ⟨e6, he6⟩ : ∃ e, (s.fifo == t.fifo) = e := ⟨_, rfl⟩
  obtain ⟨e7, he7⟩ : ∃ e, (s.lost == t.lost) = e := ⟨_, rfl⟩
  obtain ⟨e8, he8⟩ : ∃ e, (s.empty == t.empty) = e := ⟨_, rfl⟩
  rw [he0, he1, he2, he3, he4, he5, he6, he7, he8] at HU
  clear HR1 HR2
  generalize s.ier = xier at *
  generalize t.ier = yier at *
  generalize s.lcr = xlcr at *
  generalize t.lcr = ylcr at *
  generalize s.mcr = xmcr at *
  generalize t.mcr = ymcr at *
  generalize s.scr = xscr at *
  generalize t.scr = yscr at *
  generalize s.dll = xdll at *
  generalize t.dll = ydll at *
  generalize s.dlm = xdlm at *
  generalize t.dlm = ydlm at *
  generalize s.fifo = xfifo at *
  generalize t.fifo = yfifo at *
  generalize s.lost = xlost at *
  generalize t.lost = ylost at *
  generalize s.empty = xempty at *
  generalize t.empty = yempty at *
  cases e0 with
  | true =>
    go_wp2_with fail
    go_ret
    exact ⟨by rw [HU.out]; rfl, HB.out⟩
  | false =>
    cases e1 with
    | true =>
      go_wp2_with fail
      go_ret
      exact ⟨by rw [HU.out]; rfl, HB.out⟩
    | false =>
      cases e2 with
      | true =>
        go_wp2_with fail
        go_ret
        exact ⟨by rw [HU.out]; rfl, HB.out⟩
      | false =>
        cases e3 with
        | true =>
          go_wp2_with fail
          go_ret
          exact ⟨by rw [HU.out]; rfl, HB.out⟩
        | false =>
          cases e4 with
          | true =>
            go_wp2_with fail
            go_ret
            exact ⟨by rw [HU.out]; rfl, HB.out⟩
          | false =>
            cases e5 with
            | true =>
              go_wp2_with fail
              go_ret
              exact ⟨by rw [HU.out]; rfl, HB.out⟩
            | false =>
              cases e6 with
              | false =>
                go_wp2_with fail
                go_ret
                exact ⟨by rw [HU.out]; rfl, HB.out⟩
              | true =>
                cases e7 with
                | false =>
                  go_wp2_with fail
                  go_ret
                  exact ⟨by rw [HU.out]; rfl, HB.out⟩
                | true =>
                  cases e8 with
                  | false =>
                    go_wp2_with fail
                    go_ret
                    exact ⟨by rw [HU.out]; rfl, HB.out⟩
                  | true =>
                    go_wp2_with fail
                    refine (HQ.out _ HB.out).mono ?_
                    rintro e w2 ⟨rfl, hb2⟩
                    have HB2 := Lib.hid (HB.out.trans (hb2.mono HB.out.size))
                    have k10 := (hb2.cell (p := ⟨w.heap.size, 10, none⟩) (World.block_lt_of_cell? _ _ a10)).trans a10
                    have l10 := (hb2.cell (p := ⟨w.heap.size + 1, 10, none⟩) (World.block_lt_of_cell? _ _ b10)).trans b10
                    clear hb2 HQ a0 b0 a1 b1 a2 b2 a3 b3 a4 b4 a5 b5 a6 b6 a7 b7 a8 b8 a9 b9 a10 b10
                    cases r1 with
                    | false =>
                      go_wp2_with fail
                      go_ret
                      exact ⟨by rw [HU.out]; rfl, HB2.out⟩
                    | true =>
                      go_wp2_with fail
                      refine (HO.out _ HB2.out).mono ?_
                      rintro e w3 ⟨rfl, hb3⟩
                      have HB3 := Lib.hid (HB2.out.trans (hb3.mono HB2.out.size))
                      clear hb3 HO
                      go_wp2_with fail
                      go_ret
                      exact ⟨by rw [HU.out]; rfl, HB3.out⟩
/-! The law's do. -/
abbrev DuT : TypeId := 25
def doU (s : Ut.S) (d : Du) : Ut.S := if d.kind = 0 then Ut.readS s d.off else if d.kind = 1 then Ut.writeS s d.off d.b else Ut.inS s d.b
theorem Du.In.byte {d : Du} (h : d.In) : Ut.isB d.b := ⟨h.b.1, by have := h.b.2; omega⟩
theorem doU_ok {s : Ut.S} (h : Ut.Ok s) {d : Du} (hd : d.In) : Ut.Ok (doU s d) := by
  unfold doU
  split
  · exact Ut.read_ok h _
  · split
    · exact Ut.write_ok h hd.byte
    · exact Ut.in_ok h hd.byte
theorem doU_out (s : Ut.S) (d : Du) : (doU s d).out.length ≤ s.out.length + 1 := by
  unfold doU
  split
  · rw [Ut.read_out]; omega
  · split
    · exact Ut.write_out
    · rw [Ut.in_out]; omega
/-- What a deed leaves: the port, and the reference's value, each in memory of its own. -/
structure DoQ (F G : Nat → Prop) (w W : World) (b : Nat) (s : Ut.S) (iv ov : Value) : Prop where
  ex : ∃ F', Pt F' W b s ∧ VwG (fun k => F' k ∨ G k) W iv s.q ∧ VwG (fun k => F' k ∨ G k) W ov s.out ∧ ∀ k, F' k → F k ∨ w.heap.size ≤ k
  chg : Chg F w W
section
variable {F G : Nat → Prop} {w w1 W W' : World} {b : Nat} {s t : Ut.S} {v iv ov : Value} {xs : List Int}
/-- A slice beside a port that does something. -/
theorem VwG.port (h : VwG F W v xs) (q : PtQ F W W' b t) : VwG (Nw F W W') W' v xs :=
  (h.more (H := Nw F W W') (fun _ hk => hk.imp id (fun h2 => h2.1))).keep (q.chg.mono (fun _ hk => .inl hk))
/-- The same, beside one more block. -/
theorem VwG.portG {E : Nat → Prop} (h : VwG (fun k => F k ∨ E k) W v xs) (q : PtQ F W W' b t) : VwG (fun k => Nw F W W' k ∨ E k) W' v xs :=
  (h.more (H := fun k => Nw F W W' k ∨ E k) (fun _ hk => by rcases hk with (h1 | h1) | h1; exact .inl (.inl h1); exact .inr h1.1; exact .inl (.inr h1))).keep (q.chg.mono (fun _ hk => .inl (.inl hk)))
theorem Ut.readV_rng {s : Ut.S} (h : Ut.Ok s) (off : Int) : 0 ≤ Ut.readV s off ∧ Ut.readV s off < 256 := by
  have hq : ∀ i, 0 ≤ s.q.getD i 0 ∧ s.q.getD i 0 < 256 := fun i => by
    rw [List.getD]
    by_cases hi : i < s.q.length
    · rw [List.getElem?_eq_getElem hi]
      exact h.qs _ (List.getElem_mem hi)
    · rw [List.getElem?_eq_none (by omega)]
      simp
  have h1 := h.ier
  have h2 := h.lcr
  have h3 := h.mcr
  have h4 := h.scr
  have h5 := h.dll
  have h6 := h.dlm
  unfold Ut.isB at h2 h4 h5 h6
  have hc := Ut.cause_of s
  have hm : 0 ≤ Ut.modem s.mcr ∧ Ut.modem s.mcr < 256 := by
    unfold Ut.modem Ut.b2i
    split
    · refine ⟨?_, ?_⟩ <;> (repeat' split) <;> omega
    · omega
  have h0 := hq 0
  unfold Ut.readV
  repeat' split
  all_goals omega
theorem CsAt.chg {t : TypeId} {cs : Array Value} (h : CsAt W b t cs) (hc : Chg F W W') (hb : ¬ F b) : CsAt W' b t cs := hc.cs h hb
end
/-- The deed's own three blocks. -/
structure DbAt (w W : World) (s t : Ut.S) (iv ov jv qv : Value) (d : Du) : Prop where
  x : CsAt W w.heap.size X17 (xuV s iv ov)
  d : CsAt W (w.heap.size + 1) DuT d.cells
  r : CsAt W (w.heap.size + 2) X17 (xuV t jv qv)
  bel : w.heap.size + 3 ≤ W.heap.size
section
variable {F : Nat → Prop} {w W W' : World} {s t u : Ut.S} {iv ov jv qv kv lv : Value} {d : Du}
theorem DbAt.new (w : World) (s : Ut.S) (iv ov : Value) (d : Du) : DbAt w (((w.alloc (.cells (xuV s iv ov) X17)).alloc (.cells d.cells DuT)).alloc (.cells (xuV Ut.zero (.slice none 0 0) (.slice none 0 0)) X17)) s Ut.zero iv ov (.slice none 0 0) (.slice none 0 0) d := by
  have e1 : (w.alloc (.cells (xuV s iv ov) X17)).heap.size = w.heap.size + 1 := by simp
  have e2 : ((w.alloc (.cells (xuV s iv ov) X17)).alloc (.cells d.cells DuT)).heap.size = w.heap.size + 2 := by simp
  refine ⟨((CsAt.new w X17 _).alloc _).alloc _, ?_, ?_, by simp⟩
  · have := CsAt.new (w.alloc (.cells (xuV s iv ov) X17)) DuT d.cells
    rw [e1] at this
    exact this.alloc _
  · have := CsAt.new ((w.alloc (.cells (xuV s iv ov) X17)).alloc (.cells d.cells DuT)) X17 (xuV Ut.zero (.slice none 0 0) (.slice none 0 0))
    rwa [e2] at this
theorem DbAt.below (w : World) (s : Ut.S) (iv ov : Value) (d : Du) : Below w.heap.size w (((w.alloc (.cells (xuV s iv ov) X17)).alloc (.cells d.cells DuT)).alloc (.cells (xuV Ut.zero (.slice none 0 0) (.slice none 0 0)) X17)) :=
  (((Below.refl _ _).alloc (Nat.le_refl _) _).alloc (by simp) _).alloc (by simp; omega) _
theorem DbAt.chg (h : DbAt w W s t iv ov jv qv d) (hc : Chg F W W') (hF : ∀ k, F k → k < w.heap.size ∨ w.heap.size + 3 ≤ k) : DbAt w W' s t iv ov jv qv d :=
  ⟨hc.cs h.x (fun a => by have := hF _ a; omega), hc.cs h.d (fun a => by have := hF _ a; omega), hc.cs h.r (fun a => by have := hF _ a; omega), Nat.le_trans h.bel hc.size⟩
theorem DbAt.low (h : DbAt w W s t iv ov jv qv d) (hb : Below W.heap.size W W') : DbAt w W' s t iv ov jv qv d := h.chg (F := fun _ => False) (Chg.of_below hb) (fun _ a => a.elim)
theorem DbAt.ret (h : DbAt w W s t iv ov jv qv d) : (loadVar X17 ⟨w.heap.size + 2, 0, none⟩).run Try.prog W = .ok (.agg (xuV t jv qv)) W :=
  run_loadVar_row _ _ X17 X17 _ (0, 0) _ h.r Try.underlying32 rfl info_X17
theorem DbAt.res (h : DbAt w W s t iv ov jv qv d) (u : Ut.S) (kv lv : Value) : DbAt w (W.setRow (w.heap.size + 2) (xuV u kv lv)) s u iv ov kv lv d :=
  ⟨h.x.rowFar (by omega) _, h.d.rowFar (by omega) _, h.r.row _, by simpa using h.bel⟩
end
/-- The end of a deed: the result is laid into its own block. -/
theorem DoQ.fin {F F' G : Nat → Prop} {w W : World} {b : Nat} {s : Ut.S} {iv ov : Value} (hp : Pt F' W b s) (hF : ∀ k, F' k → F k ∨ w.heap.size + 3 ≤ k) (hl : ∀ k, F k → k < w.heap.size) (hc : Chg F w W)
    (hi2 : VwG (fun k => F' k ∨ (G k ∨ k = w.heap.size + 2)) W iv s.q) (ho2 : VwG (fun k => F' k ∨ (G k ∨ k = w.heap.size + 2)) W ov s.out) (cs : Array Value) : DoQ F G w (W.setRow (w.heap.size + 2) cs) b s iv ov := by
  have hr : Chg (fun k => k = w.heap.size + 2) W (W.setRow (w.heap.size + 2) cs) := Chg.of_row (S := fun k => k = w.heap.size + 2) (b := w.heap.size + 2) rfl cs
  refine ⟨⟨F', hp.keep hr (fun k hk e => ?_), ?_, ?_, fun k hk => (hF k hk).imp id (fun h => by omega)⟩, hc.transN hr (fun i hi => .inr (by omega))⟩
  · subst e
    rcases hF _ hk with h | h
    · have := hl _ h; omega
    · omega
  · exact (hi2.keep (hr.mono (fun _ hk => .inr (.inr hk)))).more (fun _ hk => .inl (hk.imp id .inl))
  · exact (ho2.keep (hr.mono (fun _ hk => .inr (.inr hk)))).more (fun _ hk => .inl (hk.imp id .inl))

set_option maxHeartbeats 16000000 in
theorem du_read (F G : Nat → Prop) (b : Nat) (s : Ut.S) (iv ov : Value) (d : Du) (hd : d.In) (hk : d.kind = 0) (w : World) (hp : Pt F w b s) (hg : ∀ k, G k → k < w.heap.size) (hi : VwG (fun k => F k ∨ G k) w iv s.q) (ho : VwG (fun k => F k ∨ G k) w ov s.out) (hn : s.out.length < 900) :
    Calls Try.prog 11 #[.pointer (some ⟨b, 0, none⟩), .agg (xuV s iv ov), .agg d.cells] w fun e w' => ∃ iv' ov', e = .returned (.tuple #[.agg (xuV (Ut.readS s d.off) iv' ov'), .bool true]) ∧ DoQ F G w w' b (Ut.readS s d.off) iv' ov' := by
  have HD := Lib.hid (DbAt.new w s iv ov d)
  have hb1 := DbAt.below w s iv ov d
  have HP := Lib.hid (hp.low hb1)
  have HI := Lib.hid hi
  have HO := Lib.hid ho
  have HI1 := Lib.hid ((hi.more (H := fun k => F k ∨ (G k ∨ k = w.heap.size + 2)) (fun k hk => by rcases hk with h | h | h; exact .inl (.inl h); exact .inl (.inr h); exact .inr (by omega))).low hb1)
  have HO1 := Lib.hid ((ho.more (H := fun k => F k ∨ (G k ∨ k = w.heap.size + 2)) (fun k hk => by rcases hk with h | h | h; exact .inl (.inl h); exact .inl (.inr h); exact .inr (by omega))).low hb1)
  have HL := Lib.hid hp.lt
  have HGG := Lib.hid hg
  have HK := Lib.hid hp.ok
  have HB1 := Lib.hid hb1
  have HN := Lib.hid hn
  have hz := zero_x17
  have hoff := hd.off
  have hby := hd.byte
  have wx : IntKind.i64.wrap d.b = d.b := wrapI (by have := hby.1; omega) (by have := hby.2; omega)
  obtain ⟨kd, off, x⟩ := d
  simp only at hoff hby wx HD
  clear hp hi ho hb1 hd hn hg
  simp only at hk
  subst hk
  have HR := Lib.hid (fun W (h : Pt F W b s) => uread_c off hoff.1 hoff.2 h)
  have HX := Lib.hid (fun (G : Nat → Prop) (W : World) (hG : ∀ k, G k → k < W.heap.size) (hi : VwG G W iv s.q) (ho : VwG G W ov s.out) => rread_c G s iv ov off hoff.1 W hG hi ho HK.out)
  have hv : 0 ≤ Ut.readV s off ∧ Ut.readV s off < 256 := Ut.readV_rng HK.out off
  have wv : IntKind.i64.wrap (Ut.readV s off) = Ut.readV s off := wrapI (by omega) (by omega)
  generalize Ut.readS s off = t at *
  generalize Ut.readV s off = v at *
  generalize Ut.is off = q at *
  go_enter Try.func11, Try.ntmps11
  go_upto_region 1 with fail
  generalize ((w.alloc (.cells (xuV s iv ov) X17)).alloc (.cells (Du.cells ⟨0, off, x⟩) DuT)).alloc (.cells (xuV Ut.zero (.slice none 0 0) (.slice none 0 0)) X17) = w1 at *
  have d0 : w1.cell? ⟨w.heap.size + 1, 0, none⟩ = some (.int .i64 0) := HD.out.d.cell 0
  have d1 : w1.cell? ⟨w.heap.size + 1, 1, none⟩ = some (.int .u64 off) := HD.out.d.cell 1
  have d2 : w1.cell? ⟨w.heap.size + 1, 2, none⟩ = some (.int .u8 x) := HD.out.d.cell 2
  have gv : (v == v) = true := by simp
  have gq : (q == q) = true := by simp
  go_wp2_with fail
  refine (HR.out w1 HP.out).mono ?_
  rintro e w2 ⟨rfl, hq2⟩
  have hD2 := HD.out.chg hq2.chg (show ∀ k, F k → k < w.heap.size ∨ w.heap.size + 3 ≤ k from fun k hk => .inl (HL.out k hk))
  have d1 : w2.cell? ⟨w.heap.size + 1, 1, none⟩ = some (.int .u64 off) := hD2.d.cell 1
  have HD2 := Lib.hid hD2
  have HQ2 := Lib.hid hq2
  have HI2 := Lib.hid (VwG.portG HI1.out hq2)
  have HO2 := Lib.hid (VwG.portG HO1.out hq2)
  have hG2 : ∀ k, (Nw F w1 w2 k ∨ (G k ∨ k = w.heap.size + 2)) → k < w2.heap.size := fun k hk => hk.elim (hq2.pt.lt k) (fun e => by have := hD2.bel; rcases e with e | e; (have := HGG.out k e; omega); omega)
  have HG2 := Lib.hid hG2
  clear hq2 hD2 hG2 HR HI1 HO1
  go_wp2_with (refine wpList_load_row rfl X17 _ rfl w.heap.size rfl X17 _ (0, 0) _ HD2.out.x Try.underlying32 rfl info_X17 ?_)
  refine (HX.out _ w2 HG2.out HI2.out HO2.out).mono ?_
  rintro e w3 ⟨iv3, ov3, rfl, hq3⟩
  have HONE := Lib.hid (xuV_one t hq3.i.one hq3.o.one)
  have hb4 : Below w3.heap.size w3 (w3.alloc (.cells (xuV t iv3 ov3) X17)) := (Below.refl _ _).alloc (Nat.le_refl _) _
  have HD4 := Lib.hid ((HD2.out.low hq3.bel).low hb4)
  have HY := Lib.hid (CsAt.new w3 X17 (xuV t iv3 ov3))
  have HP4 := Lib.hid ((HQ2.out.pt.low hq3.bel).low hb4)
  have HI4 := Lib.hid (hq3.i.low hb4)
  have HO4 := Lib.hid (hq3.o.low hb4)
  have HC4 := Lib.hid (show Chg F w (w3.alloc (.cells (xuV t iv3 ov3) X17)) from (((Chg.of_below HB1.out).trans HQ2.out.chg).trans (Chg.of_below hq3.bel)).trans (Chg.of_below hb4))
  have HSZ := Lib.hid (show w.heap.size + 3 ≤ w1.heap.size from HD.out.bel)
  clear hq3 hb4 HX HD2 HI2 HO2 HG2
  go_upto_region 5 with (refine wpList_storeNew (w0 := w3) rfl X17 _ _ rfl (xuV Ut.zero (.slice none 0 0) (.slice none 0 0)) (xuV t iv3 ov3) X17 rfl rfl info_X17 rfl HONE.out ?_)
  generalize w3.alloc (.cells (xuV t iv3 ov3) X17) = w4 at *
  have HR4 := Lib.hid (HD4.out.res t iv3 ov3)
  have HF := Lib.hid (DoQ.fin HP4.out (fun k hk => hk.imp id (fun h => Nat.le_trans HSZ.out h.1)) HL.out HC4.out HI4.out HO4.out (xuV t iv3 ov3))
  clear d0 d1 d2 HI4 HO4 HP4 HC4 HQ2
  go_wp2_with (first | (refine wpList_load_row rfl X17 _ rfl w3.heap.size rfl X17 _ (0, 0) _ HY.out Try.underlying32 rfl info_X17 ?_) | (refine wpList_store_row rfl X17 _ _ rfl (w.heap.size + 2) (xuV t iv3 ov3) rfl rfl X17 _ HD4.out.r info_X17 rfl HONE.out ?_))
  exact bodyPost_ret (results_cbU X17 Try.results11 _ _ (w.heap.size + 2) _ _ rfl rfl HR4.out.ret) rfl ⟨_, _, rfl, HF.out⟩
set_option maxHeartbeats 16000000 in
theorem du_write (F G : Nat → Prop) (b : Nat) (s : Ut.S) (iv ov : Value) (d : Du) (hd : d.In) (hk : d.kind = 1) (w : World) (hp : Pt F w b s) (hg : ∀ k, G k → k < w.heap.size) (hi : VwG (fun k => F k ∨ G k) w iv s.q) (ho : VwG (fun k => F k ∨ G k) w ov s.out) (hn : s.out.length < 900) :
    Calls Try.prog 11 #[.pointer (some ⟨b, 0, none⟩), .agg (xuV s iv ov), .agg d.cells] w fun e w' => ∃ iv' ov', e = .returned (.tuple #[.agg (xuV (Ut.writeS s d.off d.b) iv' ov'), .bool true]) ∧ DoQ F G w w' b (Ut.writeS s d.off d.b) iv' ov' := by
  have HD := Lib.hid (DbAt.new w s iv ov d)
  have hb1 := DbAt.below w s iv ov d
  have HP := Lib.hid (hp.low hb1)
  have HI := Lib.hid hi
  have HO := Lib.hid ho
  have HI1 := Lib.hid ((hi.more (H := fun k => F k ∨ (G k ∨ k = w.heap.size + 2)) (fun k hk => by rcases hk with h | h | h; exact .inl (.inl h); exact .inl (.inr h); exact .inr (by omega))).low hb1)
  have HO1 := Lib.hid ((ho.more (H := fun k => F k ∨ (G k ∨ k = w.heap.size + 2)) (fun k hk => by rcases hk with h | h | h; exact .inl (.inl h); exact .inl (.inr h); exact .inr (by omega))).low hb1)
  have HL := Lib.hid hp.lt
  have HGG := Lib.hid hg
  have HK := Lib.hid hp.ok
  have HB1 := Lib.hid hb1
  have HN := Lib.hid hn
  have hz := zero_x17
  have hoff := hd.off
  have hby := hd.byte
  have wx : IntKind.i64.wrap d.b = d.b := wrapI (by have := hby.1; omega) (by have := hby.2; omega)
  obtain ⟨kd, off, x⟩ := d
  simp only at hoff hby wx HD
  clear hp hi ho hb1 hd hn hg
  simp only at hk
  subst hk
  have HR := Lib.hid (fun W (h : Pt F W b s) => uwrite_c off x hoff.1 hoff.2 hby HN.out h)
  have HX := Lib.hid (fun (G : Nat → Prop) (W : World) (hG : ∀ k, G k → k < W.heap.size) (hi : VwG G W iv s.q) (ho : VwG G W ov s.out) => rwrite_c G s iv ov off x hoff.1 hby W hG hi ho HK.out HN.out)
  generalize Ut.writeS s off x = t at *
  generalize Ut.is off = q at *
  go_enter Try.func11, Try.ntmps11
  go_upto_region 1 with fail
  generalize ((w.alloc (.cells (xuV s iv ov) X17)).alloc (.cells (Du.cells ⟨1, off, x⟩) DuT)).alloc (.cells (xuV Ut.zero (.slice none 0 0) (.slice none 0 0)) X17) = w1 at *
  have d0 : w1.cell? ⟨w.heap.size + 1, 0, none⟩ = some (.int .i64 1) := HD.out.d.cell 0
  have d1 : w1.cell? ⟨w.heap.size + 1, 1, none⟩ = some (.int .u64 off) := HD.out.d.cell 1
  have d2 : w1.cell? ⟨w.heap.size + 1, 2, none⟩ = some (.int .u8 x) := HD.out.d.cell 2
  have gq : (q == q) = true := by simp
  have hG1 : ∀ k, (F k ∨ (G k ∨ k = w.heap.size + 2)) → k < w1.heap.size := fun k hk => hk.elim (HP.out.lt k) (fun e => by have := HD.out.bel; rcases e with e | e; (have := HGG.out k e; omega); omega)
  have HG1 := Lib.hid hG1
  clear hG1
  go_wp2_with (refine wpList_load_row rfl X17 _ rfl w.heap.size rfl X17 _ (0, 0) _ HD.out.x Try.underlying32 rfl info_X17 ?_)
  refine (HX.out _ w1 HG1.out HI1.out HO1.out).mono ?_
  rintro e w3 ⟨iv3, ov3, rfl, hq3⟩
  have HONE := Lib.hid (xuV_one t hq3.i.one hq3.o.one)
  have hb4 : Below w3.heap.size w3 (w3.alloc (.cells (xuV t iv3 ov3) X17)) := (Below.refl _ _).alloc (Nat.le_refl _) _
  have hbb := hq3.bel.trans (hb4.mono hq3.bel.size)
  have HD4 := Lib.hid (HD.out.low hbb)
  have HY := Lib.hid (CsAt.new w3 X17 (xuV t iv3 ov3))
  have HP4 := Lib.hid (HP.out.low hbb)
  have HI4 := Lib.hid (hq3.i.low hb4)
  have HO4 := Lib.hid (hq3.o.low hb4)
  have HB4 := Lib.hid (HB1.out.trans (hbb.mono HB1.out.size))
  have HSZ := Lib.hid (show w.heap.size + 3 ≤ w3.heap.size from Nat.le_trans HD.out.bel hq3.bel.size)
  clear hq3 hb4 hbb HX HD HI1 HO1 HG1 HP
  go_upto_region 8 with (refine wpList_storeNew (w0 := w3) rfl X17 _ _ rfl (xuV Ut.zero (.slice none 0 0) (.slice none 0 0)) (xuV t iv3 ov3) X17 rfl rfl info_X17 rfl HONE.out ?_)
  generalize w3.alloc (.cells (xuV t iv3 ov3) X17) = w4 at *
  generalize hyb : w3.heap.size = yb at *
  have hD5 : DbAt w w4.drew s Ut.zero iv ov (.slice none 0 0) (.slice none 0 0) ⟨_, off, x⟩ := HD4.out.low (below_dU (Below.refl _ _) 1)
  have hY5 : CsAt w4.drew yb X17 (xuV t iv3 ov3) := HY.out.low (below_dU (Below.refl _ _) 1)
  have hP5 : Pt F w4.drew b s := HP4.out.low (below_dU (Below.refl _ _) 1)
  have hs0 : CsAt w4.drew yb X17 (xuV t iv3 ov3) ∧ CsAt w4.drew (w.heap.size + 1) DuT (Du.cells ⟨_, off, x⟩) := ⟨hY5, hD5.d⟩
  clear d0 d1 d2
  refine wp_region_noPanic ?_
  refine wp_region_held (S := fun W => CsAt W yb X17 (xuV t iv3 ov3) ∧ CsAt W (w.heap.size + 1) DuT (Du.cells ⟨1, off, x⟩)) (by kernel_rfl) ?_
  refine takeH (fuel := 10) (i := 0) (.agg (xuV t iv3 ov3)) ?_ rfl (by kernel_rfl) (by kernel_rfl) (by kernel_rfl) (fun _ _ _ h => h) (by kernel_rfl) (fun W hS => exec_load_row X17 _ rfl yb rfl X17 _ _ hS.1 Try.underlying32 rfl info_X17) hs0 ?_ ?_
  rotate_left 1
  · go_simp
    exact rfl
  refine takeH (fuel := 9) (i := 1) (.pointer (some ⟨b, 0, none⟩)) ?_ rfl (by kernel_rfl) (by kernel_rfl) (by kernel_rfl) (fun _ _ _ h => h) (by kernel_rfl) (fun W hS => by go_simp) hs0 ?_ ?_
  rotate_left 1
  · go_simp
    exact rfl
  refine takeH (fuel := 8) (i := 2) (.pointer (some ⟨w.heap.size + 1, 1, none⟩)) ?_ rfl (by kernel_rfl) (by kernel_rfl) (by kernel_rfl) (fun _ _ _ h => h) (by kernel_rfl) (fun W hS => by go_simp) hs0 ?_ ?_
  rotate_left 1
  · go_simp
    exact rfl
  refine takeH (fuel := 7) (i := 3) (.int .u64 off) ?_ rfl (by kernel_rfl) (by kernel_rfl) (by kernel_rfl) (fun _ _ _ h => h) (by kernel_rfl) (fun W hS => by (have q := hS.2.cell 1; simp only [List.getElem?_toArray, List.getElem?_cons_succ, List.getElem?_cons_zero] at q; go_simp)) hs0 ?_ ?_
  rotate_left 1
  · go_simp
    exact rfl
  refine takeH (fuel := 6) (i := 4) (.pointer (some ⟨w.heap.size + 1, 2, none⟩)) ?_ rfl (by kernel_rfl) (by kernel_rfl) (by kernel_rfl) (fun _ _ _ h => h) (by kernel_rfl) (fun W hS => by go_simp) hs0 ?_ ?_
  rotate_left 1
  · go_simp
    exact rfl
  refine takeH (fuel := 5) (i := 5) (.int .u8 x) ?_ rfl (by kernel_rfl) (by kernel_rfl) (by kernel_rfl) (fun _ _ _ h => h) (by kernel_rfl) (fun W hS => by (have q := hS.2.cell 2; simp only [List.getElem?_toArray, List.getElem?_cons_succ, List.getElem?_cons_zero] at q; go_simp)) hs0 ?_ ?_
  rotate_left 1
  · go_simp
    exact rfl
  refine takeH (fuel := 4) (i := 7) (.bool q) ?_ rfl (by kernel_rfl) (by kernel_rfl) (by kernel_rfl) (fun _ _ _ h => h) (by kernel_rfl) (fun W hS => by go_simp) hs0 ?_ ?_
  rotate_left 1
  · go_simp
    exact rfl
  refine wpAnyH_all (fuel := 3) (rs := [6]) (by kernel_rfl) (by decide) ?_
  intro i hi
  obtain rfl : i = 6 := by simpa using hi
  refine wpOp_callX 17 #[.pointer (some ⟨b, 0, none⟩), .int .u64 off, .int .u8 x] rfl (by kernel_rfl) (by go_simp) ?_
  refine (HR.out _ hP5).mono ?_
  rintro e w6 ⟨rfl, hq6⟩
  have hyF : ¬ F yb := fun a => by have := HL.out _ a; have := HSZ.out; omega
  have hD6 := hD5.chg hq6.chg (show ∀ k, F k → k < w.heap.size ∨ w.heap.size + 3 ≤ k from fun k hk => .inl (HL.out k hk))
  have hY6 : CsAt w6 yb X17 (xuV t iv3 ov3) := hq6.chg.cs hY5 hyF
  have hs1 : CsAt w6 yb X17 (xuV t iv3 ov3) ∧ CsAt w6 (w.heap.size + 1) DuT (Du.cells ⟨1, off, x⟩) := ⟨hY6, hD6.d⟩
  refine ⟨_, rfl, hs1, ?_⟩
  refine takeH (fuel := 2) (i := 8) (.bool true) ?_ rfl (by kernel_rfl) (by kernel_rfl) (by kernel_rfl) (fun _ _ _ h => h) (by kernel_rfl) (fun W hS => by go_simp) hs1 ?_ ?_
  rotate_left 1
  · go_simp
    exact rfl
  refine wpAnyH_all (fuel := 1) (rs := [9]) (by kernel_rfl) (by decide) ?_
  intro i hi
  obtain rfl : i = 9 := by simpa using hi
  refine wpOp_unitB (w6.setRow (w.heap.size + 2) (xuV t iv3 ov3)) _ rfl (by kernel_rfl) (exec_store_row X17 _ _ rfl (w.heap.size + 2) (xuV t iv3 ov3) rfl rfl X17 _ hD6.r info_X17 rfl HONE.out) rfl ?_
  have hR7 := hD6.res t iv3 ov3
  have hs2 : CsAt (w6.setRow (w.heap.size + 2) (xuV t iv3 ov3)) yb X17 (xuV t iv3 ov3) ∧ CsAt (w6.setRow (w.heap.size + 2) (xuV t iv3 ov3)) (w.heap.size + 1) DuT (Du.cells ⟨1, off, x⟩) := ⟨hY6.rowFar (by have := HSZ.out; omega) _, hR7.d⟩
  refine ⟨hs2, ?_⟩
  refine takeH (fuel := 0) (i := 10) (.bool true) ?_ rfl (by kernel_rfl) (by kernel_rfl) (by kernel_rfl) (fun _ _ _ h => h) (by kernel_rfl) (fun W hS => by go_simp) hs2 ?_ ?_
  rotate_left 1
  · go_simp
    exact rfl
  refine wpAnyH_done (by kernel_rfl) ?_ _
  refine NoPanic.normal ?_
  have HR7 := Lib.hid hR7
  have HF := Lib.hid (DoQ.fin (F := F) (w := w) hq6.pt (fun k hk => hk.imp id (fun h => Nat.le_trans HD4.out.bel h.1)) HL.out
    (((Chg.of_below HB4.out).trans (Chg.drewN 1)).trans hq6.chg) (VwG.portG (HI4.out.low (below_dU (Below.refl _ _) 1)) hq6) (VwG.portG (HO4.out.low (below_dU (Below.refl _ _) 1)) hq6) (xuV t iv3 ov3))
  clear hs0 hs1 hs2 hR7 hD6 hY6 hq6 hD5 hY5 hP5 HI4 HO4
  generalize w6.setRow (w.heap.size + 2) (xuV t iv3 ov3) = w7 at *
  go_wp2_with fail
  exact bodyPost_ret (results_cbU X17 Try.results11 _ _ (w.heap.size + 2) _ _ rfl rfl HR7.out.ret) rfl ⟨_, _, rfl, HF.out⟩
set_option maxHeartbeats 16000000 in
theorem du_in (F G : Nat → Prop) (b : Nat) (s : Ut.S) (iv ov : Value) (d : Du) (hd : d.In) (hk0 : d.kind ≠ 0) (hk1 : d.kind ≠ 1) (w : World) (hp : Pt F w b s) (hg : ∀ k, G k → k < w.heap.size) (hi : VwG (fun k => F k ∨ G k) w iv s.q) (ho : VwG (fun k => F k ∨ G k) w ov s.out) (hn : s.out.length < 900) :
    Calls Try.prog 11 #[.pointer (some ⟨b, 0, none⟩), .agg (xuV s iv ov), .agg d.cells] w fun e w' => ∃ iv' ov', e = .returned (.tuple #[.agg (xuV (Ut.inS s d.b) iv' ov'), .bool true]) ∧ DoQ F G w w' b (Ut.inS s d.b) iv' ov' := by
  have HD := Lib.hid (DbAt.new w s iv ov d)
  have hb1 := DbAt.below w s iv ov d
  have HP := Lib.hid (hp.low hb1)
  have HI := Lib.hid hi
  have HO := Lib.hid ho
  have HI1 := Lib.hid ((hi.more (H := fun k => F k ∨ (G k ∨ k = w.heap.size + 2)) (fun k hk => by rcases hk with h | h | h; exact .inl (.inl h); exact .inl (.inr h); exact .inr (by omega))).low hb1)
  have HO1 := Lib.hid ((ho.more (H := fun k => F k ∨ (G k ∨ k = w.heap.size + 2)) (fun k hk => by rcases hk with h | h | h; exact .inl (.inl h); exact .inl (.inr h); exact .inr (by omega))).low hb1)
  have HL := Lib.hid hp.lt
  have HGG := Lib.hid hg
  have HK := Lib.hid hp.ok
  have HB1 := Lib.hid hb1
  have HN := Lib.hid hn
  have hz := zero_x17
  have hoff := hd.off
  have hby := hd.byte
  have wx : IntKind.i64.wrap d.b = d.b := wrapI (by have := hby.1; omega) (by have := hby.2; omega)
  obtain ⟨kd, off, x⟩ := d
  simp only at hoff hby wx HD
  clear hp hi ho hb1 hd hn hg
  simp only at hk0 hk1
  have g0 : (kd == 0) = false := by simpa using hk0
  have g1 : (kd == 1) = false := by simpa using hk1
  clear hk0 hk1
  have HR := Lib.hid (fun W (h : Pt F W b s) => uinput_c hby h)
  have HX := Lib.hid (fun (G : Nat → Prop) (W : World) (hG : ∀ k, G k → k < W.heap.size) (hi : VwG G W iv s.q) (ho : VwG G W ov s.out) => rinput_c G s iv ov x hby W hG hi ho HK.out)
  generalize Ut.inS s x = t at *
  generalize Ut.inB s = q at *
  go_enter Try.func11, Try.ntmps11
  go_upto_region 1 with fail
  generalize ((w.alloc (.cells (xuV s iv ov) X17)).alloc (.cells (Du.cells ⟨kd, off, x⟩) DuT)).alloc (.cells (xuV Ut.zero (.slice none 0 0) (.slice none 0 0)) X17) = w1 at *
  have d0 : w1.cell? ⟨w.heap.size + 1, 0, none⟩ = some (.int .i64 kd) := HD.out.d.cell 0
  have d1 : w1.cell? ⟨w.heap.size + 1, 1, none⟩ = some (.int .u64 off) := HD.out.d.cell 1
  have d2 : w1.cell? ⟨w.heap.size + 1, 2, none⟩ = some (.int .u8 x) := HD.out.d.cell 2
  have gq : (q == q) = true := by simp
  have hG1 : ∀ k, (F k ∨ (G k ∨ k = w.heap.size + 2)) → k < w1.heap.size := fun k hk => hk.elim (HP.out.lt k) (fun e => by have := HD.out.bel; rcases e with e | e; (have := HGG.out k e; omega); omega)
  have HG1 := Lib.hid hG1
  clear hG1
  go_wp2_with (refine wpList_load_row rfl X17 _ rfl w.heap.size rfl X17 _ (0, 0) _ HD.out.x Try.underlying32 rfl info_X17 ?_)
  refine (HX.out _ w1 HG1.out HI1.out HO1.out).mono ?_
  rintro e w3 ⟨iv3, ov3, rfl, hq3⟩
  have HONE := Lib.hid (xuV_one t hq3.i.one hq3.o.one)
  have hb4 : Below w3.heap.size w3 (w3.alloc (.cells (xuV t iv3 ov3) X17)) := (Below.refl _ _).alloc (Nat.le_refl _) _
  have hbb := hq3.bel.trans (hb4.mono hq3.bel.size)
  have HD4 := Lib.hid (HD.out.low hbb)
  have HY := Lib.hid (CsAt.new w3 X17 (xuV t iv3 ov3))
  have HP4 := Lib.hid (HP.out.low hbb)
  have HI4 := Lib.hid (hq3.i.low hb4)
  have HO4 := Lib.hid (hq3.o.low hb4)
  have HB4 := Lib.hid (HB1.out.trans (hbb.mono HB1.out.size))
  have HSZ := Lib.hid (show w.heap.size + 3 ≤ w3.heap.size from Nat.le_trans HD.out.bel hq3.bel.size)
  clear hq3 hb4 hbb HX HD HI1 HO1 HG1 HP
  go_upto_region 10 with (refine wpList_storeNew (w0 := w3) rfl X17 _ _ rfl (xuV Ut.zero (.slice none 0 0) (.slice none 0 0)) (xuV t iv3 ov3) X17 rfl rfl info_X17 rfl HONE.out ?_)
  generalize w3.alloc (.cells (xuV t iv3 ov3) X17) = w4 at *
  generalize hyb : w3.heap.size = yb at *
  have hD5 : DbAt w w4.drew s Ut.zero iv ov (.slice none 0 0) (.slice none 0 0) ⟨_, off, x⟩ := HD4.out.low (below_dU (Below.refl _ _) 1)
  have hY5 : CsAt w4.drew yb X17 (xuV t iv3 ov3) := HY.out.low (below_dU (Below.refl _ _) 1)
  have hP5 : Pt F w4.drew b s := HP4.out.low (below_dU (Below.refl _ _) 1)
  have hs0 : CsAt w4.drew yb X17 (xuV t iv3 ov3) ∧ CsAt w4.drew (w.heap.size + 1) DuT (Du.cells ⟨_, off, x⟩) := ⟨hY5, hD5.d⟩
  clear d0 d1 d2
  refine wp_region_noPanic ?_
  refine wp_region_held (S := fun W => CsAt W yb X17 (xuV t iv3 ov3) ∧ CsAt W (w.heap.size + 1) DuT (Du.cells ⟨kd, off, x⟩)) (by kernel_rfl) ?_
  refine takeH (fuel := 8) (i := 0) (.agg (xuV t iv3 ov3)) ?_ rfl (by kernel_rfl) (by kernel_rfl) (by kernel_rfl) (fun _ _ _ h => h) (by kernel_rfl) (fun W hS => exec_load_row X17 _ rfl yb rfl X17 _ _ hS.1 Try.underlying32 rfl info_X17) hs0 ?_ ?_
  rotate_left 1
  · go_simp
    exact rfl
  refine takeH (fuel := 7) (i := 1) (.pointer (some ⟨b, 0, none⟩)) ?_ rfl (by kernel_rfl) (by kernel_rfl) (by kernel_rfl) (fun _ _ _ h => h) (by kernel_rfl) (fun W hS => by go_simp) hs0 ?_ ?_
  rotate_left 1
  · go_simp
    exact rfl
  refine takeH (fuel := 6) (i := 2) (.pointer (some ⟨w.heap.size + 1, 2, none⟩)) ?_ rfl (by kernel_rfl) (by kernel_rfl) (by kernel_rfl) (fun _ _ _ h => h) (by kernel_rfl) (fun W hS => by go_simp) hs0 ?_ ?_
  rotate_left 1
  · go_simp
    exact rfl
  refine takeH (fuel := 5) (i := 3) (.int .u8 x) ?_ rfl (by kernel_rfl) (by kernel_rfl) (by kernel_rfl) (fun _ _ _ h => h) (by kernel_rfl) (fun W hS => by (have q := hS.2.cell 2; simp only [List.getElem?_toArray, List.getElem?_cons_succ, List.getElem?_cons_zero] at q; go_simp)) hs0 ?_ ?_
  rotate_left 1
  · go_simp
    exact rfl
  refine takeH (fuel := 4) (i := 5) (.bool q) ?_ rfl (by kernel_rfl) (by kernel_rfl) (by kernel_rfl) (fun _ _ _ h => h) (by kernel_rfl) (fun W hS => by go_simp) hs0 ?_ ?_
  rotate_left 1
  · go_simp
    exact rfl
  refine wpAnyH_all (fuel := 3) (rs := [4]) (by kernel_rfl) (by decide) ?_
  intro i hi
  obtain rfl : i = 4 := by simpa using hi
  refine wpOp_callX 18 #[.pointer (some ⟨b, 0, none⟩), .int .u8 x] rfl (by kernel_rfl) (by go_simp) ?_
  refine (HR.out _ hP5).mono ?_
  rintro e w6 ⟨rfl, hq6⟩
  have hyF : ¬ F yb := fun a => by have := HL.out _ a; have := HSZ.out; omega
  have hD6 := hD5.chg hq6.chg (show ∀ k, F k → k < w.heap.size ∨ w.heap.size + 3 ≤ k from fun k hk => .inl (HL.out k hk))
  have hY6 : CsAt w6 yb X17 (xuV t iv3 ov3) := hq6.chg.cs hY5 hyF
  have hs1 : CsAt w6 yb X17 (xuV t iv3 ov3) ∧ CsAt w6 (w.heap.size + 1) DuT (Du.cells ⟨kd, off, x⟩) := ⟨hY6, hD6.d⟩
  refine ⟨_, rfl, hs1, ?_⟩
  refine takeH (fuel := 2) (i := 6) (.bool true) ?_ rfl (by kernel_rfl) (by kernel_rfl) (by kernel_rfl) (fun _ _ _ h => h) (by kernel_rfl) (fun W hS => by go_simp) hs1 ?_ ?_
  rotate_left 1
  · go_simp
    exact rfl
  refine wpAnyH_all (fuel := 1) (rs := [7]) (by kernel_rfl) (by decide) ?_
  intro i hi
  obtain rfl : i = 7 := by simpa using hi
  refine wpOp_unitB (w6.setRow (w.heap.size + 2) (xuV t iv3 ov3)) _ rfl (by kernel_rfl) (exec_store_row X17 _ _ rfl (w.heap.size + 2) (xuV t iv3 ov3) rfl rfl X17 _ hD6.r info_X17 rfl HONE.out) rfl ?_
  have hR7 := hD6.res t iv3 ov3
  have hs2 : CsAt (w6.setRow (w.heap.size + 2) (xuV t iv3 ov3)) yb X17 (xuV t iv3 ov3) ∧ CsAt (w6.setRow (w.heap.size + 2) (xuV t iv3 ov3)) (w.heap.size + 1) DuT (Du.cells ⟨kd, off, x⟩) := ⟨hY6.rowFar (by have := HSZ.out; omega) _, hR7.d⟩
  refine ⟨hs2, ?_⟩
  refine takeH (fuel := 0) (i := 8) (.bool true) ?_ rfl (by kernel_rfl) (by kernel_rfl) (by kernel_rfl) (fun _ _ _ h => h) (by kernel_rfl) (fun W hS => by go_simp) hs2 ?_ ?_
  rotate_left 1
  · go_simp
    exact rfl
  refine wpAnyH_done (by kernel_rfl) ?_ _
  refine NoPanic.normal ?_
  have HR7 := Lib.hid hR7
  have HF := Lib.hid (DoQ.fin (F := F) (w := w) hq6.pt (fun k hk => hk.imp id (fun h => Nat.le_trans HD4.out.bel h.1)) HL.out
    (((Chg.of_below HB4.out).trans (Chg.drewN 1)).trans hq6.chg) (VwG.portG (HI4.out.low (below_dU (Below.refl _ _) 1)) hq6) (VwG.portG (HO4.out.low (below_dU (Below.refl _ _) 1)) hq6) (xuV t iv3 ov3))
  clear hs0 hs1 hs2 hR7 hD6 hY6 hq6 hD5 hY5 hP5 HI4 HO4
  generalize w6.setRow (w.heap.size + 2) (xuV t iv3 ov3) = w7 at *
  go_wp2_with fail
  exact bodyPost_ret (results_cbU X17 Try.results11 _ _ (w.heap.size + 2) _ _ rfl rfl HR7.out.ret) rfl ⟨_, _, rfl, HF.out⟩
theorem du_c (F G : Nat → Prop) (b : Nat) (s : Ut.S) (iv ov : Value) (d : Du) (hd : d.In) (w : World) (hp : Pt F w b s) (hg : ∀ k, G k → k < w.heap.size) (hi : VwG (fun k => F k ∨ G k) w iv s.q) (ho : VwG (fun k => F k ∨ G k) w ov s.out) (hn : s.out.length < 900) :
    Calls Try.prog 11 #[.pointer (some ⟨b, 0, none⟩), .agg (xuV s iv ov), .agg d.cells] w fun e w' => ∃ iv' ov', e = .returned (.tuple #[.agg (xuV (doU s d) iv' ov'), .bool true]) ∧ DoQ F G w w' b (doU s d) iv' ov' := by
  unfold doU
  by_cases h0 : d.kind = 0
  · rw [if_pos h0]; exact du_read F G b s iv ov d hd h0 w hp hg hi ho hn
  · rw [if_neg h0]
    by_cases h1 : d.kind = 1
    · rw [if_pos h1]; exact du_write F G b s iv ov d hd h1 w hp hg hi ho hn
    · rw [if_neg h1]; exact du_in F G b s iv ov d hd h0 h1 w hp hg hi ho hn
end Go.Proofs.Ytihinimgenpijaa
