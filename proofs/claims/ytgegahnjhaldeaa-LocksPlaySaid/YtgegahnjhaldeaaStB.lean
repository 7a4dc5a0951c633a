/-
  Contract of the reference of layer 12: closed.
-/
import Derived.Test.YtgegahnjhaldeaaStA
import Derived.Test.YtgegahnjhaldeaaSteady
namespace Go.Proofs.Ytgegahnjhaldeaa
open Go.ChangeShapes Go.WideShapes Go.ChangeAt Go.RowKit
variable {Z : Nat → Prop}

theorem steady_skipB {P : Program} {ops : Array Oper} {S : World → Prop} {Q : Act → Prop} {a : Act} {o : Oper} {rest : List Oper} (b : Act) (hw : Region.wanted o (yielded ops a.tmps) = false) (hb : a.put o.dst undef = b)
    (h : wpSteady P ops S Q rest b) : wpSteady P ops S Q (o :: rest) a := steady_skip hw (hb ▸ h)
set_option maxRecDepth 100000 in
set_option maxHeartbeats 16000000 in
theorem rclosed_c (rb n cap : Nat) (R : Int → List Int) (pw : Option Addr) (cs : Nat) (ss : List Int) (w : World) (h : RlAt Z w rb n R) (hok : Lk.Ok R n) (hn : n ≤ 128) (hv : Vw w pw (iV ss)) (hl : ss.length ≤ 8) :
    Calls Try.prog 43 #[.slice (some ⟨rb, 0, none⟩) n cap, .slice pw ss.length cs] w fun e w' => e = .returned (.bool (Lk.closedB R n ss)) ∧ Below w.heap.size w w' := by
  have HH := Lib.hid h
  have HV := Lib.hid hv
  have HOK := Lib.hid hok
  clear h hv hok
  go_enter Try.func43, Try.ntmps43
  go_wp2_with fail
  go_loopw [5] (fun iv wr => ∃ i : Nat, i ≤ ss.length ∧ iv = .int .i64 i ∧ (∀ j, j < i → Lk.waitsFor R n (ss.getD j 0) ss = true) ∧ Below w.heap.size w wr) (fun iv _ => ss.length - (intOf iv).toNat)
  case atStart => exact ⟨0, by omega, rfl, fun j hj => by omega, Below.refl _ _⟩
  case round =>
    obtain ⟨i, hi, rfl, hall, hb⟩ := hrel
    have HALL := Lib.hid hall
    have HBR0 := Lib.hid hb
    clear hall hb
    by_cases hil : i < ss.length
    · have gi : decide (i < ss.length) = true := by simpa using hil
      have gi2 : (i : Int) < ss.length := by omega
      obtain ⟨b, off, rfl, hbl0, hcl⟩ := HV.out.cells (show 0 < ss.length by omega)
      have HCX := Lib.hid (hcl i hil)
      obtain ⟨x, hx⟩ : ∃ x, ss.getD i 0 = x := ⟨_, rfl⟩
      rw [hx] at HCX
      have HX := Lib.hid hx
      clear hcl hx
      go_wp2_with fail
      obtain ⟨wo, rfl⟩ : ∃ wo : World, wo = wr := ⟨_, rfl⟩
      go_loopw [6, 7] (fun fv kv wr => ∃ k : Nat, k ≤ n ∧ kv = .int .i64 k ∧ fv = .bool (Lk.fk R x ss k) ∧ Below w.heap.size w wr) (fun _ kv _ => n - (intOf kv).toNat)
      case atStart => exact ⟨0, by omega, rfl, rfl, HBR0.out⟩
      case round =>
        obtain ⟨k, hk, rfl, rfl, hb⟩ := hrel
        have HBR := Lib.hid hb
        clear hb
        by_cases hkn : k < n
        · have gk : decide (k < n) = true := by simpa using hkn
          have gk2 : (k : Int) < n := by omega
          have hrl : rb < wr.heap.size := Nat.lt_of_lt_of_le HH.out.lt HBR.out.size
          have hbl : b < wr.heap.size := Nat.lt_of_lt_of_le hbl0 HBR.out.size
          have HRR := Lib.hid (show RlAt Z wr rb n R from HH.out.keep HBR.out.size (fun b _ hlt => HBR.out.block b hlt) (fun _ h => h))
          have c0 : wr.cell? ⟨rb, k * 2, none⟩ = some (.int .i64 (Lk.hd (R (k : Int)))) := HRR.out.hold k hkn
          obtain ⟨p, cq, c1, hvq⟩ : ∃ p cq, wr.cell? ⟨rb, k * 2 + 1, none⟩ = some (.slice p (R (k : Int)).tail.length cq) ∧ Vw wr p (iV (R (k : Int)).tail) := by
            obtain ⟨p, cq, h1, h2, -⟩ := HRR.out.que k hkn
            exact ⟨p, cq, h1, h2⟩
          have cx := (HBR.out.cell (p := ⟨b, off + i, none⟩) hbl0).trans HCX.out
          have hT8 : (R (k : Int)).tail.length ≤ 8 := by have := HOK.out.len (k : Int); rw [List.length_tail]; omega
          have HIN := Lib.hid (fun W (hS : Below wr.heap.size wr W) => (rin_c p cq (R (k : Int)).tail x W (hvq.low hS) (by omega)).mono fun e w' ⟨h1, h2⟩ => And.intro h1 (show Below wr.heap.size wr w' from h2 ▸ hS))
          have HIW := Lib.hid (fun W (hS : Below wr.heap.size wr W) => (rin_c (some ⟨b, off, none⟩) cs ss (Lk.hd (R (k : Int))) W (HV.out.low (HBR.out.trans (hS.mono HBR.out.size))) (by omega)).mono fun e w' ⟨h1, h2⟩ => And.intro h1 (show Below wr.heap.size wr w' from h2 ▸ hS))
          have HFK := Lib.hid (show Lk.fk R x ss (k + 1) = (Lk.fk R x ss k || (((R (k : Int)).tail.any fun y => x == y) && ss.any fun y => Lk.hd (R (k : Int)) == y)) from rfl)
          clear hvq
          generalize Lk.hd (R (k : Int)) = h at *
          generalize (R (k : Int)).tail = T at *
          generalize (ss.any fun y => h == y) = r at *
          obtain ⟨q, hq⟩ : ∃ q, (T.any fun y => x == y) = q := ⟨_, rfl⟩
          rw [hq] at HFK HIN
          obtain ⟨fd, hfd⟩ : ∃ z, Lk.fk R x ss k = z := ⟨_, rfl⟩
          rw [hfd] at HFK ⊢
          clear hq hfd
          cases fd
          · cases q
            · rw [Bool.false_and, Bool.false_or] at HFK
              go_upto_region 8 with (fail)
              refine wp_region_steady (fun W => Below wr.heap.size wr W) (by kernel_rfl) (by kernel_rfl) ((Below.refl _ _).drew) ?_
              refine steady_val (.bool false) ?_ (by kernel_rfl) (fun W hS => by have d0 := (hS.cell (p := ⟨rb, k * 2, none⟩) hrl).trans c0; have d1 := (hS.cell (p := ⟨rb, k * 2 + 1, none⟩) hrl).trans c1; have dx := (hS.cell (p := ⟨b, off + i, none⟩) hbl).trans cx; go_simp) ?_ ?_
              rotate_left 1
              · go_simp
                exact rfl
              refine steady_val (.bool false) ?_ (by kernel_rfl) (fun W hS => by have d0 := (hS.cell (p := ⟨rb, k * 2, none⟩) hrl).trans c0; have d1 := (hS.cell (p := ⟨rb, k * 2 + 1, none⟩) hrl).trans c1; have dx := (hS.cell (p := ⟨b, off + i, none⟩) hbl).trans cx; go_simp) ?_ ?_
              rotate_left 1
              · go_simp
                exact rfl
              refine steady_val (.slice (some ⟨rb, 0, none⟩) n cap) ?_ (by kernel_rfl) (fun W hS => by have d0 := (hS.cell (p := ⟨rb, k * 2, none⟩) hrl).trans c0; have d1 := (hS.cell (p := ⟨rb, k * 2 + 1, none⟩) hrl).trans c1; have dx := (hS.cell (p := ⟨b, off + i, none⟩) hbl).trans cx; go_simp) ?_ ?_
              rotate_left 1
              · go_simp
                exact rfl
              refine steady_val (.int .i64 (k : Int)) ?_ (by kernel_rfl) (fun W hS => by have d0 := (hS.cell (p := ⟨rb, k * 2, none⟩) hrl).trans c0; have d1 := (hS.cell (p := ⟨rb, k * 2 + 1, none⟩) hrl).trans c1; have dx := (hS.cell (p := ⟨b, off + i, none⟩) hbl).trans cx; go_simp) ?_ ?_
              rotate_left 1
              · go_simp
                exact rfl
              refine steady_val (.pointer (some ⟨rb, k * 2, none⟩)) ?_ (by kernel_rfl) (fun W hS => by have d0 := (hS.cell (p := ⟨rb, k * 2, none⟩) hrl).trans c0; have d1 := (hS.cell (p := ⟨rb, k * 2 + 1, none⟩) hrl).trans c1; have dx := (hS.cell (p := ⟨b, off + i, none⟩) hbl).trans cx; go_simp) ?_ ?_
              rotate_left 1
              · go_simp
                exact rfl
              refine steady_val (.pointer (some ⟨rb, k * 2 + 1, none⟩)) ?_ (by kernel_rfl) (fun W hS => by have d0 := (hS.cell (p := ⟨rb, k * 2, none⟩) hrl).trans c0; have d1 := (hS.cell (p := ⟨rb, k * 2 + 1, none⟩) hrl).trans c1; have dx := (hS.cell (p := ⟨b, off + i, none⟩) hbl).trans cx; go_simp) ?_ ?_
              rotate_left 1
              · go_simp
                exact rfl
              refine steady_val (.slice p T.length cq) ?_ (by kernel_rfl) (fun W hS => by have d0 := (hS.cell (p := ⟨rb, k * 2, none⟩) hrl).trans c0; have d1 := (hS.cell (p := ⟨rb, k * 2 + 1, none⟩) hrl).trans c1; have dx := (hS.cell (p := ⟨b, off + i, none⟩) hbl).trans cx; go_simp) ?_ ?_
              rotate_left 1
              · go_simp
                exact rfl
              refine steady_val (.slice (some ⟨b, off, none⟩) ss.length cs) ?_ (by kernel_rfl) (fun W hS => by have d0 := (hS.cell (p := ⟨rb, k * 2, none⟩) hrl).trans c0; have d1 := (hS.cell (p := ⟨rb, k * 2 + 1, none⟩) hrl).trans c1; have dx := (hS.cell (p := ⟨b, off + i, none⟩) hbl).trans cx; go_simp) ?_ ?_
              rotate_left 1
              · go_simp
                exact rfl
              refine steady_val (.int .i64 (i : Int)) ?_ (by kernel_rfl) (fun W hS => by have d0 := (hS.cell (p := ⟨rb, k * 2, none⟩) hrl).trans c0; have d1 := (hS.cell (p := ⟨rb, k * 2 + 1, none⟩) hrl).trans c1; have dx := (hS.cell (p := ⟨b, off + i, none⟩) hbl).trans cx; go_simp) ?_ ?_
              rotate_left 1
              · go_simp
                exact rfl
              refine steady_val (.pointer (some ⟨b, off + i, none⟩)) ?_ (by kernel_rfl) (fun W hS => by have d0 := (hS.cell (p := ⟨rb, k * 2, none⟩) hrl).trans c0; have d1 := (hS.cell (p := ⟨rb, k * 2 + 1, none⟩) hrl).trans c1; have dx := (hS.cell (p := ⟨b, off + i, none⟩) hbl).trans cx; go_simp) ?_ ?_
              rotate_left 1
              · go_simp
                exact rfl
              refine steady_val (.int .i64 x) ?_ (by kernel_rfl) (fun W hS => by have d0 := (hS.cell (p := ⟨rb, k * 2, none⟩) hrl).trans c0; have d1 := (hS.cell (p := ⟨rb, k * 2 + 1, none⟩) hrl).trans c1; have dx := (hS.cell (p := ⟨b, off + i, none⟩) hbl).trans cx; go_simp) ?_ ?_
              rotate_left 1
              · go_simp
                exact rfl
              refine steady_enter (.bool false) 36 #[.slice p T.length cq, .int .i64 x] ?_ (by kernel_rfl) (fun W hS => by go_simp) (fun W hS => (HIN.out W hS)) ?_ ?_
              rotate_left 1
              · go_simp
                exact rfl
              refine steady_val (.bool false) ?_ (by kernel_rfl) (fun W hS => by have d0 := (hS.cell (p := ⟨rb, k * 2, none⟩) hrl).trans c0; have d1 := (hS.cell (p := ⟨rb, k * 2 + 1, none⟩) hrl).trans c1; have dx := (hS.cell (p := ⟨b, off + i, none⟩) hbl).trans cx; go_simp) ?_ ?_
              rotate_left 1
              · go_simp
                exact rfl
              refine steady_skipB ?_ (by kernel_rfl) ?_ ?_
              rotate_left 1
              · exact rfl
              refine steady_skipB ?_ (by kernel_rfl) ?_ ?_
              rotate_left 1
              · exact rfl
              refine steady_skipB ?_ (by kernel_rfl) ?_ ?_
              rotate_left 1
              · exact rfl
              refine steady_skipB ?_ (by kernel_rfl) ?_ ?_
              rotate_left 1
              · exact rfl
              refine steady_skipB ?_ (by kernel_rfl) ?_ ?_
              rotate_left 1
              · exact rfl
              refine steady_skipB ?_ (by kernel_rfl) ?_ ?_
              rotate_left 1
              · exact rfl
              refine steady_skipB ?_ (by kernel_rfl) ?_ ?_
              rotate_left 1
              · exact rfl
              refine steady_val (.bool false) ?_ (by kernel_rfl) (fun W hS => by have d0 := (hS.cell (p := ⟨rb, k * 2, none⟩) hrl).trans c0; have d1 := (hS.cell (p := ⟨rb, k * 2 + 1, none⟩) hrl).trans c1; have dx := (hS.cell (p := ⟨b, off + i, none⟩) hbl).trans cx; go_simp) ?_ ?_
              rotate_left 1
              · go_simp
                exact rfl
              refine steady_val (.bool false) ?_ (by kernel_rfl) (fun W hS => by have d0 := (hS.cell (p := ⟨rb, k * 2, none⟩) hrl).trans c0; have d1 := (hS.cell (p := ⟨rb, k * 2 + 1, none⟩) hrl).trans c1; have dx := (hS.cell (p := ⟨b, off + i, none⟩) hbl).trans cx; go_simp) ?_ ?_
              rotate_left 1
              · go_simp
                exact rfl
              refine steady_val (.bool false) ?_ (by kernel_rfl) (fun W hS => by have d0 := (hS.cell (p := ⟨rb, k * 2, none⟩) hrl).trans c0; have d1 := (hS.cell (p := ⟨rb, k * 2 + 1, none⟩) hrl).trans c1; have dx := (hS.cell (p := ⟨b, off + i, none⟩) hbl).trans cx; go_simp) ?_ ?_
              rotate_left 1
              · go_simp
                exact rfl
              refine steady_nil ?_
              intro W hS
              have HB2 := Lib.hid (HBR.out.trans (hS.mono HBR.out.size))
              clear hS c0 c1 cx
              go_wp2_with fail
              go_roundw
              case rel => exact ⟨k + 1, by omega, by go_num, by rw [HFK.out], HB2.out⟩
              case measure => simp [intOf]; omega
            · rw [Bool.true_and, Bool.false_or] at HFK
              go_upto_region 8 with (fail)
              refine wp_region_steady (fun W => Below wr.heap.size wr W) (by kernel_rfl) (by kernel_rfl) ((Below.refl _ _).drew) ?_
              refine steady_val (.bool false) ?_ (by kernel_rfl) (fun W hS => by have d0 := (hS.cell (p := ⟨rb, k * 2, none⟩) hrl).trans c0; have d1 := (hS.cell (p := ⟨rb, k * 2 + 1, none⟩) hrl).trans c1; have dx := (hS.cell (p := ⟨b, off + i, none⟩) hbl).trans cx; go_simp) ?_ ?_
              rotate_left 1
              · go_simp
                exact rfl
              refine steady_val (.bool false) ?_ (by kernel_rfl) (fun W hS => by have d0 := (hS.cell (p := ⟨rb, k * 2, none⟩) hrl).trans c0; have d1 := (hS.cell (p := ⟨rb, k * 2 + 1, none⟩) hrl).trans c1; have dx := (hS.cell (p := ⟨b, off + i, none⟩) hbl).trans cx; go_simp) ?_ ?_
              rotate_left 1
              · go_simp
                exact rfl
              refine steady_val (.slice (some ⟨rb, 0, none⟩) n cap) ?_ (by kernel_rfl) (fun W hS => by have d0 := (hS.cell (p := ⟨rb, k * 2, none⟩) hrl).trans c0; have d1 := (hS.cell (p := ⟨rb, k * 2 + 1, none⟩) hrl).trans c1; have dx := (hS.cell (p := ⟨b, off + i, none⟩) hbl).trans cx; go_simp) ?_ ?_
              rotate_left 1
              · go_simp
                exact rfl
              refine steady_val (.int .i64 (k : Int)) ?_ (by kernel_rfl) (fun W hS => by have d0 := (hS.cell (p := ⟨rb, k * 2, none⟩) hrl).trans c0; have d1 := (hS.cell (p := ⟨rb, k * 2 + 1, none⟩) hrl).trans c1; have dx := (hS.cell (p := ⟨b, off + i, none⟩) hbl).trans cx; go_simp) ?_ ?_
              rotate_left 1
              · go_simp
                exact rfl
              refine steady_val (.pointer (some ⟨rb, k * 2, none⟩)) ?_ (by kernel_rfl) (fun W hS => by have d0 := (hS.cell (p := ⟨rb, k * 2, none⟩) hrl).trans c0; have d1 := (hS.cell (p := ⟨rb, k * 2 + 1, none⟩) hrl).trans c1; have dx := (hS.cell (p := ⟨b, off + i, none⟩) hbl).trans cx; go_simp) ?_ ?_
              rotate_left 1
              · go_simp
                exact rfl
              refine steady_val (.pointer (some ⟨rb, k * 2 + 1, none⟩)) ?_ (by kernel_rfl) (fun W hS => by have d0 := (hS.cell (p := ⟨rb, k * 2, none⟩) hrl).trans c0; have d1 := (hS.cell (p := ⟨rb, k * 2 + 1, none⟩) hrl).trans c1; have dx := (hS.cell (p := ⟨b, off + i, none⟩) hbl).trans cx; go_simp) ?_ ?_
              rotate_left 1
              · go_simp
                exact rfl
              refine steady_val (.slice p T.length cq) ?_ (by kernel_rfl) (fun W hS => by have d0 := (hS.cell (p := ⟨rb, k * 2, none⟩) hrl).trans c0; have d1 := (hS.cell (p := ⟨rb, k * 2 + 1, none⟩) hrl).trans c1; have dx := (hS.cell (p := ⟨b, off + i, none⟩) hbl).trans cx; go_simp) ?_ ?_
              rotate_left 1
              · go_simp
                exact rfl
              refine steady_val (.slice (some ⟨b, off, none⟩) ss.length cs) ?_ (by kernel_rfl) (fun W hS => by have d0 := (hS.cell (p := ⟨rb, k * 2, none⟩) hrl).trans c0; have d1 := (hS.cell (p := ⟨rb, k * 2 + 1, none⟩) hrl).trans c1; have dx := (hS.cell (p := ⟨b, off + i, none⟩) hbl).trans cx; go_simp) ?_ ?_
              rotate_left 1
              · go_simp
                exact rfl
              refine steady_val (.int .i64 (i : Int)) ?_ (by kernel_rfl) (fun W hS => by have d0 := (hS.cell (p := ⟨rb, k * 2, none⟩) hrl).trans c0; have d1 := (hS.cell (p := ⟨rb, k * 2 + 1, none⟩) hrl).trans c1; have dx := (hS.cell (p := ⟨b, off + i, none⟩) hbl).trans cx; go_simp) ?_ ?_
              rotate_left 1
              · go_simp
                exact rfl
              refine steady_val (.pointer (some ⟨b, off + i, none⟩)) ?_ (by kernel_rfl) (fun W hS => by have d0 := (hS.cell (p := ⟨rb, k * 2, none⟩) hrl).trans c0; have d1 := (hS.cell (p := ⟨rb, k * 2 + 1, none⟩) hrl).trans c1; have dx := (hS.cell (p := ⟨b, off + i, none⟩) hbl).trans cx; go_simp) ?_ ?_
              rotate_left 1
              · go_simp
                exact rfl
              refine steady_val (.int .i64 x) ?_ (by kernel_rfl) (fun W hS => by have d0 := (hS.cell (p := ⟨rb, k * 2, none⟩) hrl).trans c0; have d1 := (hS.cell (p := ⟨rb, k * 2 + 1, none⟩) hrl).trans c1; have dx := (hS.cell (p := ⟨b, off + i, none⟩) hbl).trans cx; go_simp) ?_ ?_
              rotate_left 1
              · go_simp
                exact rfl
              refine steady_enter (.bool true) 36 #[.slice p T.length cq, .int .i64 x] ?_ (by kernel_rfl) (fun W hS => by go_simp) (fun W hS => (HIN.out W hS)) ?_ ?_
              rotate_left 1
              · go_simp
                exact rfl
              refine steady_val (.bool true) ?_ (by kernel_rfl) (fun W hS => by have d0 := (hS.cell (p := ⟨rb, k * 2, none⟩) hrl).trans c0; have d1 := (hS.cell (p := ⟨rb, k * 2 + 1, none⟩) hrl).trans c1; have dx := (hS.cell (p := ⟨b, off + i, none⟩) hbl).trans cx; go_simp) ?_ ?_
              rotate_left 1
              · go_simp
                exact rfl
              refine steady_val (.slice (some ⟨b, off, none⟩) ss.length cs) ?_ (by kernel_rfl) (fun W hS => by have d0 := (hS.cell (p := ⟨rb, k * 2, none⟩) hrl).trans c0; have d1 := (hS.cell (p := ⟨rb, k * 2 + 1, none⟩) hrl).trans c1; have dx := (hS.cell (p := ⟨b, off + i, none⟩) hbl).trans cx; go_simp) ?_ ?_
              rotate_left 1
              · go_simp
                exact rfl
              refine steady_val (.slice (some ⟨rb, 0, none⟩) n cap) ?_ (by kernel_rfl) (fun W hS => by have d0 := (hS.cell (p := ⟨rb, k * 2, none⟩) hrl).trans c0; have d1 := (hS.cell (p := ⟨rb, k * 2 + 1, none⟩) hrl).trans c1; have dx := (hS.cell (p := ⟨b, off + i, none⟩) hbl).trans cx; go_simp) ?_ ?_
              rotate_left 1
              · go_simp
                exact rfl
              refine steady_val (.int .i64 (k : Int)) ?_ (by kernel_rfl) (fun W hS => by have d0 := (hS.cell (p := ⟨rb, k * 2, none⟩) hrl).trans c0; have d1 := (hS.cell (p := ⟨rb, k * 2 + 1, none⟩) hrl).trans c1; have dx := (hS.cell (p := ⟨b, off + i, none⟩) hbl).trans cx; go_simp) ?_ ?_
              rotate_left 1
              · go_simp
                exact rfl
              refine steady_val (.pointer (some ⟨rb, k * 2, none⟩)) ?_ (by kernel_rfl) (fun W hS => by have d0 := (hS.cell (p := ⟨rb, k * 2, none⟩) hrl).trans c0; have d1 := (hS.cell (p := ⟨rb, k * 2 + 1, none⟩) hrl).trans c1; have dx := (hS.cell (p := ⟨b, off + i, none⟩) hbl).trans cx; go_simp) ?_ ?_
              rotate_left 1
              · go_simp
                exact rfl
              refine steady_val (.pointer (some ⟨rb, k * 2, none⟩)) ?_ (by kernel_rfl) (fun W hS => by have d0 := (hS.cell (p := ⟨rb, k * 2, none⟩) hrl).trans c0; have d1 := (hS.cell (p := ⟨rb, k * 2 + 1, none⟩) hrl).trans c1; have dx := (hS.cell (p := ⟨b, off + i, none⟩) hbl).trans cx; go_simp) ?_ ?_
              rotate_left 1
              · go_simp
                exact rfl
              refine steady_val (.int .i64 h) ?_ (by kernel_rfl) (fun W hS => by have d0 := (hS.cell (p := ⟨rb, k * 2, none⟩) hrl).trans c0; have d1 := (hS.cell (p := ⟨rb, k * 2 + 1, none⟩) hrl).trans c1; have dx := (hS.cell (p := ⟨b, off + i, none⟩) hbl).trans cx; go_simp) ?_ ?_
              rotate_left 1
              · go_simp
                exact rfl
              refine steady_enter (.bool r) 36 #[.slice (some ⟨b, off, none⟩) ss.length cs, .int .i64 h] ?_ (by kernel_rfl) (fun W hS => by go_simp) (fun W hS => (HIW.out W hS)) ?_ ?_
              rotate_left 1
              · go_simp
                exact rfl
              refine steady_val (.bool r) ?_ (by kernel_rfl) (fun W hS => by have d0 := (hS.cell (p := ⟨rb, k * 2, none⟩) hrl).trans c0; have d1 := (hS.cell (p := ⟨rb, k * 2 + 1, none⟩) hrl).trans c1; have dx := (hS.cell (p := ⟨b, off + i, none⟩) hbl).trans cx; go_simp) ?_ ?_
              rotate_left 1
              · go_simp
                exact rfl
              refine steady_val (.bool r) ?_ (by kernel_rfl) (fun W hS => by have d0 := (hS.cell (p := ⟨rb, k * 2, none⟩) hrl).trans c0; have d1 := (hS.cell (p := ⟨rb, k * 2 + 1, none⟩) hrl).trans c1; have dx := (hS.cell (p := ⟨b, off + i, none⟩) hbl).trans cx; go_simp) ?_ ?_
              rotate_left 1
              · go_simp
                exact rfl
              refine steady_val (.bool r) ?_ (by kernel_rfl) (fun W hS => by have d0 := (hS.cell (p := ⟨rb, k * 2, none⟩) hrl).trans c0; have d1 := (hS.cell (p := ⟨rb, k * 2 + 1, none⟩) hrl).trans c1; have dx := (hS.cell (p := ⟨b, off + i, none⟩) hbl).trans cx; go_simp) ?_ ?_
              rotate_left 1
              · go_simp
                exact rfl
              refine steady_nil ?_
              intro W hS
              have HB2 := Lib.hid (HBR.out.trans (hS.mono HBR.out.size))
              clear hS c0 c1 cx
              go_wp2_with fail
              go_roundw
              case rel => exact ⟨k + 1, by omega, by go_num, by rw [HFK.out], HB2.out⟩
              case measure => simp [intOf]; omega
          · rw [Bool.true_or] at HFK
            go_upto_region 8 with (fail)
            refine wp_region_steady (fun W => Below wr.heap.size wr W) (by kernel_rfl) (by kernel_rfl) ((Below.refl _ _).drew) ?_
            refine steady_val (.bool true) ?_ (by kernel_rfl) (fun W hS => by have d0 := (hS.cell (p := ⟨rb, k * 2, none⟩) hrl).trans c0; have d1 := (hS.cell (p := ⟨rb, k * 2 + 1, none⟩) hrl).trans c1; have dx := (hS.cell (p := ⟨b, off + i, none⟩) hbl).trans cx; go_simp) ?_ ?_
            rotate_left 1
            · go_simp
              exact rfl
            refine steady_val (.bool true) ?_ (by kernel_rfl) (fun W hS => by have d0 := (hS.cell (p := ⟨rb, k * 2, none⟩) hrl).trans c0; have d1 := (hS.cell (p := ⟨rb, k * 2 + 1, none⟩) hrl).trans c1; have dx := (hS.cell (p := ⟨b, off + i, none⟩) hbl).trans cx; go_simp) ?_ ?_
            rotate_left 1
            · go_simp
              exact rfl
            refine steady_skipB ?_ (by kernel_rfl) ?_ ?_
            rotate_left 1
            · exact rfl
            refine steady_skipB ?_ (by kernel_rfl) ?_ ?_
            rotate_left 1
            · exact rfl
            refine steady_skipB ?_ (by kernel_rfl) ?_ ?_
            rotate_left 1
            · exact rfl
            refine steady_skipB ?_ (by kernel_rfl) ?_ ?_
            rotate_left 1
            · exact rfl
            refine steady_skipB ?_ (by kernel_rfl) ?_ ?_
            rotate_left 1
            · exact rfl
            refine steady_skipB ?_ (by kernel_rfl) ?_ ?_
            rotate_left 1
            · exact rfl
            refine steady_skipB ?_ (by kernel_rfl) ?_ ?_
            rotate_left 1
            · exact rfl
            refine steady_skipB ?_ (by kernel_rfl) ?_ ?_
            rotate_left 1
            · exact rfl
            refine steady_skipB ?_ (by kernel_rfl) ?_ ?_
            rotate_left 1
            · exact rfl
            refine steady_skipB ?_ (by kernel_rfl) ?_ ?_
            rotate_left 1
            · exact rfl
            refine steady_skipB ?_ (by kernel_rfl) ?_ ?_
            rotate_left 1
            · exact rfl
            refine steady_skipB ?_ (by kernel_rfl) ?_ ?_
            rotate_left 1
            · exact rfl
            refine steady_skipB ?_ (by kernel_rfl) ?_ ?_
            rotate_left 1
            · exact rfl
            refine steady_skipB ?_ (by kernel_rfl) ?_ ?_
            rotate_left 1
            · exact rfl
            refine steady_skipB ?_ (by kernel_rfl) ?_ ?_
            rotate_left 1
            · exact rfl
            refine steady_skipB ?_ (by kernel_rfl) ?_ ?_
            rotate_left 1
            · exact rfl
            refine steady_skipB ?_ (by kernel_rfl) ?_ ?_
            rotate_left 1
            · exact rfl
            refine steady_skipB ?_ (by kernel_rfl) ?_ ?_
            rotate_left 1
            · exact rfl
            refine steady_skipB ?_ (by kernel_rfl) ?_ ?_
            rotate_left 1
            · exact rfl
            refine steady_val (.bool true) ?_ (by kernel_rfl) (fun W hS => by have d0 := (hS.cell (p := ⟨rb, k * 2, none⟩) hrl).trans c0; have d1 := (hS.cell (p := ⟨rb, k * 2 + 1, none⟩) hrl).trans c1; have dx := (hS.cell (p := ⟨b, off + i, none⟩) hbl).trans cx; go_simp) ?_ ?_
            rotate_left 1
            · go_simp
              exact rfl
            refine steady_val (.bool true) ?_ (by kernel_rfl) (fun W hS => by have d0 := (hS.cell (p := ⟨rb, k * 2, none⟩) hrl).trans c0; have d1 := (hS.cell (p := ⟨rb, k * 2 + 1, none⟩) hrl).trans c1; have dx := (hS.cell (p := ⟨b, off + i, none⟩) hbl).trans cx; go_simp) ?_ ?_
            rotate_left 1
            · go_simp
              exact rfl
            refine steady_nil ?_
            intro W hS
            have HB2 := Lib.hid (HBR.out.trans (hS.mono HBR.out.size))
            clear hS c0 c1 cx
            go_wp2_with fail
            go_roundw
            case rel => exact ⟨k + 1, by omega, by go_num, by rw [HFK.out], HB2.out⟩
            case measure => simp [intOf]; omega
        · have gk : decide (k < n) = false := by simpa using hkn
          have gk2 : ¬ (k : Int) < n := by omega
          obtain rfl : k = n := by omega
          have HE := Lib.hid (Lk.fk_eq HOK.out x ss k)
          cases hw : Lk.waitsFor R k x ss
          · rw [HE.out, hw]
            have HC := Lib.hid (show Lk.closedB R k ss = false by
              unfold Lk.closedB
              rw [Bool.eq_false_iff]
              intro hc
              have := List.all_eq_true.1 hc x (by rw [← HX.out, List.getD, List.getElem?_eq_getElem hil]; exact List.getElem_mem hil)
              rw [hw] at this
              cases this)
            clear hw HE
            go_wp2_with fail
            go_ret
            rw [HC.out]
            exact ⟨rfl, HBR.out⟩
          · rw [HE.out, hw]
            have HC := Lib.hid (show ∀ j, j < i + 1 → Lk.waitsFor R k (ss.getD j 0) ss = true from fun j hj => by
              by_cases e : j = i
              · subst e; rw [HX.out]; exact hw
              · exact HALL.out j (by omega))
            clear hw HE
            go_wp2_with fail
            go_roundw
            case rel => exact ⟨i + 1, by omega, by go_num, HC.out, HBR.out⟩
            case measure => simp [intOf]; omega
    · have gi : decide (i < ss.length) = false := by simpa using hil
      have gi2 : ¬ (i : Int) < ss.length := by omega
      obtain rfl : i = ss.length := by omega
      have HC := Lib.hid (show Lk.closedB R n ss = true from List.all_eq_true.2 fun x hx => by
        obtain ⟨j, hj, rfl⟩ := List.getElem_of_mem hx
        have := HALL.out j hj
        rwa [List.getD, List.getElem?_eq_getElem hj] at this)
      go_wp2_with fail
      go_ret
      rw [HC.out]
      exact ⟨rfl, HBR0.out⟩
end Go.Proofs.Ytgegahnjhaldeaa
