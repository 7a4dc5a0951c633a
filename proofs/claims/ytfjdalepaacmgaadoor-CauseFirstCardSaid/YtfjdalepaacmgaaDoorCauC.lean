/-
  Contracts of cause.find with the functions that are handed to it, of Known, Name, Find, Of.
-/
import Derived.Test.YtfjdalepaacmgaaDoorCauB
import Derived.Test.YtfjdalepaacmgaaDoorSteady
set_option maxRecDepth 20000
namespace Go.Proofs.YtfjdalepaacmgaaDoor
open Go.ChangeShapes Go.WideShapes Go.ChangeAt Go.RowKit Wd Cau

/-- What stands while Of's function compares: the boxed row, the word. -/
structure KoS (w W : World) (pb : Nat) (c : Bool) (m : Int) (s : ByteArray) (x : Int) : Prop where
  c0 : W.cell? ⟨w.heap.size, 0, none⟩ = some (.bool c)
  c1 : W.cell? ⟨w.heap.size, 1, none⟩ = some (.int .i64 m)
  c2 : W.cell? ⟨w.heap.size, 2, none⟩ = some (.string s)
  p0 : W.cell? ⟨pb, 0, none⟩ = some (.int .u64 x)
  lt : w.heap.size < W.heap.size
  pl : pb < w.heap.size
  bel : Below w.heap.size w W
theorem KoS.low {w W W' : World} {pb : Nat} {c : Bool} {m : Int} {s : ByteArray} {x : Int} (h : KoS w W pb c m s x) (hb : Below W.heap.size W W') : KoS w W' pb c m s x :=
  ⟨(hb.cell (p := ⟨w.heap.size, 0, none⟩) h.lt).trans h.c0, (hb.cell (p := ⟨w.heap.size, 1, none⟩) h.lt).trans h.c1, (hb.cell (p := ⟨w.heap.size, 2, none⟩) h.lt).trans h.c2, (hb.cell (p := ⟨pb, 0, none⟩) (Nat.lt_trans h.pl h.lt)).trans h.p0, Nat.lt_of_lt_of_le h.lt hb.size, h.pl, h.bel.trans (hb.mono h.bel.size)⟩
theorem KoS.drew {w W : World} {pb : Nat} {c : Bool} {m : Int} {s : ByteArray} {x : Int} (h : KoS w W pb c m s x) : KoS w W.drew pb c m s x := ⟨h.c0, h.c1, h.c2, h.p0, h.lt, h.pl, h.bel.drew⟩
set_option maxHeartbeats 2000000 in
theorem kof1_c (r : RowK) (x : Int) (pb : Nat) (w : World) (hc : w.cell? ⟨pb, 0, none⟩ = some (.int .u64 x)) :
    Calls Tryd.prog 51 #[kAgg r, .pointer (some ⟨pb, 0, none⟩)] w fun e w' => e = .returned (.bool (isWrd x r)) ∧ Below w.heap.size w w' := by
  obtain ⟨c, m, l⟩ := r
  have hlt := cell_some hc
  unfold kAgg isWrd
  dsimp only
  have HC := Lib.hid (fun W => kword_c c (m : Nat) W)
  generalize wordK c (m : Nat) = z at *
  generalize ((m : Nat) : Int) = m' at *
  generalize kB l = s
  have hB : Below w.heap.size w (w.alloc (.cells #[.bool c, .int .i64 m', .string s] NmT)) := (Below.refl _ _).alloc (Nat.le_refl _) _
  have hr := CsAt.new w NmT #[.bool c, .int .i64 m', .string s]
  have HS := Lib.hid (show KoS w (w.alloc (.cells #[.bool c, .int .i64 m', .string s] NmT)) pb c m' s x from ⟨hr.cell 0, hr.cell 1, hr.cell 2, (hB.cell (p := ⟨pb, 0, none⟩) hlt).trans hc, hr.lt, hlt, hB⟩)
  clear hB hr hc
  go_enter Tryd.func51, Tryd.ntmps51
  go_upto_region 1 with fail
  generalize w.alloc (.cells #[.bool c, .int .i64 m', .string s] NmT) = w1 at *
  refine wp_region_steady (fun W => KoS w W pb c m' s x) (by kernel_rfl) (by kernel_rfl) HS.out.drew ?_
  refine steady_val ?_ ?_ (by kernel_rfl) (fun W hS => ?_) ?_ ?_
  rotate_left 2
  · go_simp
    exact rfl
  · go_simp
    exact rfl
  refine steady_val ?_ ?_ (by kernel_rfl) (fun W hS => ?_) ?_ ?_
  rotate_left 2
  · have q0 := hS.c0; have q1 := hS.c1; have q2 := hS.c2; go_simp
    exact rfl
  · go_simp
    exact rfl
  refine steady_enter (.int .u64 z) 13 #[.agg #[.bool c, .int .i64 m']] ?_ (by kernel_rfl) (fun W hS => ?_) (fun W hS => (HC.out W).mono (by rintro e w' ⟨rfl, hb⟩; exact ⟨rfl, hS.low hb⟩)) ?_ ?_
  rotate_left 1
  · go_simp
  · go_simp
    exact rfl
  refine steady_val ?_ ?_ (by kernel_rfl) (fun W hS => ?_) ?_ ?_
  rotate_left 2
  · have q3 := hS.p0; go_simp
    exact rfl
  · go_simp
    exact rfl
  iterate 2
    refine steady_val ?_ ?_ (by kernel_rfl) (fun W hS => ?_) ?_ ?_
    rotate_left 2
    · go_simp
      exact rfl
    · go_simp
      exact rfl
  refine steady_nil ?_
  intro W hS
  have HB := Lib.hid hS.bel
  clear hS HS
  go_wp2_with fail
  go_ret
  exact ⟨rfl, HB.out⟩
/-- The program's table in memory. -/
def CausesIn (w : World) : Prop := 1 < w.heap.size ∧ ∀ k, k < 20 → w.cell? ⟨1, k * 3, none⟩ = some (.bool (rowK k).1) ∧ w.cell? ⟨1, k * 3 + 1, none⟩ = some (.int .i64 ((rowK k).2.1 : Nat)) ∧ w.cell? ⟨1, k * 3 + 2, none⟩ = some (.string (kB (rowK k).2.2))
theorem CausesIn.low {w w' : World} (h : CausesIn w) (hb : Below w.heap.size w w') : CausesIn w' :=
  ⟨Nat.le_trans h.1 hb.size, fun k hk => by
    obtain ⟨a, b, c⟩ := h.2 k hk
    exact ⟨(hb.cell (p := ⟨1, k * 3, none⟩) h.1).trans a, (hb.cell (p := ⟨1, k * 3 + 1, none⟩) h.1).trans b, (hb.cell (p := ⟨1, k * 3 + 2, none⟩) h.1).trans c⟩⟩
abbrev zNm : Array Value := #[.bool false, .int .i64 0, .string ⟨#[]⟩]
theorem kAgg_no : kAgg noK = .agg zNm := rfl
set_option maxHeartbeats 2000000 in
theorem kfind_c (F : FuncId) (cs : Array Value) (p : RowK → Bool) (w : World) (hN : CausesIn w)
    (hT : ∀ k W, k < 20 → Below w.heap.size w W → Calls Tryd.prog F (#[kAgg (rowK k)] ++ cs) W fun e W' => e = .returned (.bool (p (rowK k))) ∧ Below W.heap.size W W') (hE : Go.Proofs.Enters Tryd.prog F) :
    Calls Tryd.prog 45 #[.func (.func F) #[] cs] w fun e w' => e = .returned (kVal (fstK p)) ∧ Below w.heap.size w w' := by
  have HT := Lib.hid hT
  have HN := Lib.hid hN
  clear hT hN
  go_enter Tryd.func45, Tryd.ntmps45
  go_wp2_with fail
  have h0 := CsAt.new w NmT zNm
  have hB0 : Below w.heap.size w (w.alloc (.cells zNm NmT)) := (Below.refl _ _).alloc (Nat.le_refl _) _
  generalize (w.alloc (.cells zNm NmT)) = w1 at *
  have HB1 := Lib.hid hB0
  have H0 := Lib.hid h0
  clear h0 hB0
  go_loopw [4, 5] (fun _ iv wr => ∃ k : Nat, k ≤ 20 ∧ iv = .int .i64 k ∧ (∀ j, j < k → p (rowK j) = false) ∧ Below w1.heap.size w1 wr) (fun _ iv _ => 20 - (intOf iv).toNat)
  case atStart => exact ⟨0, Nat.zero_le _, rfl, fun i h => by omega, Below.refl _ _⟩
  case round =>
    obtain ⟨k, hk, rfl, hn, hb⟩ := hrel
    have HN' := Lib.hid hn
    have HB := Lib.hid hb
    have HR := Lib.hid (H0.out.low hb)
    have hW := (HB1.out.trans (hb.mono HB1.out.size))
    have HW := Lib.hid hW
    clear hn hb hW
    by_cases hlt : k < 20
    · obtain ⟨c0, c1, c2⟩ := (HN.out.low HW.out).2 k hlt
      have hl2 : (k : Int) < 20 := by omega
      cases hp : p (rowK k)
      · have HC := Lib.hid (HT.out k wr hlt HW.out)
        have HP := Lib.hid hp
        rw [hp] at HC
        clear hp
        unfold kAgg at HC
        generalize hrk : rowK k = r at *
        have HRK := Lib.hid hrk
        clear hrk
        generalize r.1 = a at *
        generalize ((r.2.1 : Nat) : Int) = m at *
        generalize kB r.2.2 = s at *
        go_wp2_with fail
        rw [hE]
        refine HC.out.mono ?_
        rintro e w2 ⟨rfl, hb2⟩
        have HB2 := Lib.hid (HB.out.trans (hb2.mono HB.out.size))
        clear hb2
        go_wp2_with fail
        go_roundw
        case rel => exact ⟨k + 1, by omega, by go_num, fun i hi => if e : i = k then by rw [e, HRK.out]; exact HP.out else HN'.out i (by omega), HB2.out⟩
        case measure => simp [intOf]; omega
      · have HC := Lib.hid (HT.out k wr hlt HW.out)
        have HP := Lib.hid (kfst_hit hlt HN'.out hp)
        rw [hp] at HC
        clear hp
        have HA := Lib.hid (show kAgg (rowK k) = .agg #[.bool (rowK k).1, .int .i64 ((rowK k).2.1 : Nat), .string (kB (rowK k).2.2)] from rfl)
        rw [HA.out] at HC
        have HX := Lib.hid (fun W (hb : Below wr.heap.size wr W) => (HN.out.low (HW.out.trans (hb.mono HW.out.size))).2 k hlt)
        generalize rowK k = r at *
        generalize r.1 = a at *
        generalize ((r.2.1 : Nat) : Int) = m at *
        generalize kB r.2.2 = s at *
        go_wp2_with fail
        rw [hE]
        refine HC.out.mono ?_
        rintro e w2 ⟨rfl, hb2⟩
        have hR2 := HR.out.low hb2
        obtain ⟨d0, d1, d2⟩ := HX.out w2 hb2
        have HB2 := Lib.hid (HW.out.trans (hb2.mono HW.out.size))
        have z0 := hR2.cell 0
        have z1 := hR2.cell 1
        have z2 := hR2.cell 2
        have y0 := hR2.frozen 0
        have y1 := hR2.frozen 1
        have y2 := hR2.frozen 2
        clear hb2 c0 c1 c2 hR2
        simp only [List.getElem?_toArray, List.getElem?_cons_zero, List.getElem?_cons_succ] at z0 z1 z2
        go_wp2_with fail
        refine bodyPost_ret (v := .tuple #[.agg #[.bool a, .int .i64 m, .string s], .bool true]) (by simp [results, Tryd.results45, go_sem, z0, z1, z2]) rfl ⟨by rw [HP.out]; unfold kVal; rw [show (some r).getD noK = r from rfl, HA.out]; rfl, ?_⟩
        exact ((HB2.out.setCell (by exact Nat.le_refl _) _).setCell (by exact Nat.le_refl _) _).setCell (by exact Nat.le_refl _) _
    · obtain rfl : k = 20 := by omega
      have HP := Lib.hid (kfst_none HN'.out)
      have hR2 := HR.out
      have z0 := hR2.cell 0
      have z1 := hR2.cell 1
      have z2 := hR2.cell 2
      have y0 := hR2.frozen 0
      have y1 := hR2.frozen 1
      have y2 := hR2.frozen 2
      clear hR2
      simp only [List.getElem?_toArray, List.getElem?_cons_zero, List.getElem?_cons_succ] at z0 z1 z2
      go_wp2_with fail
      refine bodyPost_ret (v := .tuple #[.agg zNm, .bool false]) (by simp [results, Tryd.results45, go_sem, z0, z1, z2]) rfl ⟨by rw [HP.out]; rfl, ?_⟩
      exact ((HW.out.setCell (by exact Nat.le_refl _) _).setCell (by exact Nat.le_refl _) _).setCell (by exact Nat.le_refl _) _
theorem kVal_parts (o : Option RowK) : ∃ (b : Bool) (n : Int) (s : ByteArray) (k : Bool), kVal o = .tuple #[.agg #[.bool b, .int .i64 n, .string s], .bool k] ∧ b = (o.getD noK).1 ∧ n = ((o.getD noK).2.1 : Nat) ∧ s = kB (o.getD noK).2.2 ∧ k = o.isSome := ⟨_, _, _, _, rfl, rfl, rfl, rfl, rfl⟩
theorem code_i64 (k : Nat) (hk : k < 20) : I64 ((rowK k).2.1 : Nat) := by
  have := (by decide +kernel : ∀ k : Fin 20, (rowK k.val).2.1 < 16) ⟨k, hk⟩
  simp only at this
  exact ⟨by omega, by omega⟩

set_option maxHeartbeats 2000000 in
theorem kknown_c (b : Bool) (n : Int) (hn : I64 n) (w : World) (hN : CausesIn w) : Calls Tryd.prog 12 #[.agg #[.bool b, .int .i64 n]] w fun e w' => e = .returned (.bool (fstK (isC b n)).isSome) ∧ Below w.heap.size w w' := by
  have HN := Lib.hid hN
  clear hN
  go_enter Tryd.func12, Tryd.ntmps12
  go_upto_region 1 with (fail)
  have h1 := CsAt.new w CaT #[.bool b, .int .i64 n]
  have h3 : Below w.heap.size w (w.alloc (.cells #[.bool b, .int .i64 n] CaT)) := (Below.refl _ _).alloc (Nat.le_refl _) _
  generalize w.alloc (.cells #[.bool b, .int .i64 n] CaT) = w1 at *
  have h4 := h1.lt
  have HC := Lib.hid (kfind_c 48 #[.pointer (some ⟨w.heap.size, 0, none⟩)] (isC b n) w1 (HN.out.low h3) (fun k W hk hb => kknown1_c _ b n hn (code_i64 k hk) _ W (h1.low hb)) (Go.Proofs.enters_of Tryd.func48 (by kernel_rfl) rfl))
  have H3 := Lib.hid h3
  clear h1 h3 h4
  go_wp2_with fail
  refine HC.out.mono ?_
  rintro e w2 ⟨rfl, hb⟩
  obtain ⟨b', n', s', k', hv, eb, en, es, ek⟩ := kVal_parts (fstK (isC b n))
  rw [hv]
  have HB := Lib.hid (H3.out.trans (hb.mono H3.out.size))
  have HV := Lib.hid (show b' = ((fstK (isC b n)).getD noK).1 ∧ n' = (((fstK (isC b n)).getD noK).2.1 : Nat) ∧ s' = kB ((fstK (isC b n)).getD noK).2.2 ∧ k' = (fstK (isC b n)).isSome from ⟨eb, en, es, ek⟩)
  clear hb hv eb en es ek
  go_wp2_with fail
  go_ret
  exact ⟨by rw [← HV.out.2.2.2]; rfl, HB.out.alloc HB.out.size _⟩
set_option maxHeartbeats 2000000 in
theorem kname_c (b : Bool) (n : Int) (hn : I64 n) (w : World) (hN : CausesIn w) : Calls Tryd.prog 10 #[.agg #[.bool b, .int .i64 n]] w fun e w' => e = .returned (.string (kB ((fstK (isC b n)).getD noK).2.2)) ∧ Below w.heap.size w w' := by
  have HN := Lib.hid hN
  clear hN
  go_enter Tryd.func10, Tryd.ntmps10
  go_upto_region 1 with (fail)
  have h1 := CsAt.new w CaT #[.bool b, .int .i64 n]
  have h3 : Below w.heap.size w (w.alloc (.cells #[.bool b, .int .i64 n] CaT)) := (Below.refl _ _).alloc (Nat.le_refl _) _
  generalize w.alloc (.cells #[.bool b, .int .i64 n] CaT) = w1 at *
  have h4 := h1.lt
  have HC := Lib.hid (kfind_c 46 #[.pointer (some ⟨w.heap.size, 0, none⟩)] (isC b n) w1 (HN.out.low h3) (fun k W hk hb => kname1_c _ b n hn (code_i64 k hk) _ W (h1.low hb)) (Go.Proofs.enters_of Tryd.func46 (by kernel_rfl) rfl))
  have H3 := Lib.hid h3
  clear h1 h3 h4
  go_wp2_with fail
  refine HC.out.mono ?_
  rintro e w2 ⟨rfl, hb⟩
  obtain ⟨b', n', s', k', hv, eb, en, es, ek⟩ := kVal_parts (fstK (isC b n))
  rw [hv]
  have HB := Lib.hid (H3.out.trans (hb.mono H3.out.size))
  have HV := Lib.hid (show b' = ((fstK (isC b n)).getD noK).1 ∧ n' = (((fstK (isC b n)).getD noK).2.1 : Nat) ∧ s' = kB ((fstK (isC b n)).getD noK).2.2 ∧ k' = (fstK (isC b n)).isSome from ⟨eb, en, es, ek⟩)
  clear hb hv eb en es ek
  go_wp2_with fail
  go_ret
  exact ⟨by rw [← HV.out.2.2.1]; rfl, HB.out.alloc HB.out.size _⟩
/-- A cause and whether there is one. -/
def kCV (o : Option RowK) : Value := .tuple #[.agg #[.bool (o.getD noK).1, .int .i64 ((o.getD noK).2.1 : Nat)], .bool o.isSome]
abbrev zCa : Array Value := #[.bool false, .int .i64 0]

set_option maxHeartbeats 2000000 in
theorem kfindn_c (s : ByteArray) (w : World) (hN : CausesIn w) : Calls Tryd.prog 15 #[.string s] w fun e w' => e = .returned (kCV (fstK (isNamK s))) ∧ Below w.heap.size w w' := by
  have HN := Lib.hid hN
  clear hN
  go_enter Tryd.func15, Tryd.ntmps15
  go_upto_region 1 with (fail)
  have h0 := CsAt.new w 9 #[.string s]
  have h1 : CsAt ((w.alloc (.cells #[.string s] 9)).alloc (.cells zCa CaT)) (w.heap.size + 1) CaT zCa := by
    have := CsAt.new (w.alloc (.cells #[.string s] 9)) CaT zCa
    simpa using this
  have h2 : CsAt ((w.alloc (.cells #[.string s] 9)).alloc (.cells zCa CaT)) w.heap.size 9 #[.string s] := h0.alloc _
  have h3 : Below w.heap.size w ((w.alloc (.cells #[.string s] 9)).alloc (.cells zCa CaT)) := ((Below.refl _ _).alloc (Nat.le_refl _) _).alloc (by simp) _
  generalize ((w.alloc (.cells #[.string s] 9)).alloc (.cells zCa CaT)) = w1 at *
  have H1 := Lib.hid h1
  have HC := Lib.hid (kfind_c 50 #[.pointer (some ⟨w.heap.size, 0, none⟩)] (isNamK s) w1 (HN.out.low h3) (fun k W hk hb => kfind1_c _ s _ W ((h2.low hb).cell 0)) (Go.Proofs.enters_of Tryd.func50 (by kernel_rfl) rfl))
  have H3 := Lib.hid h3
  clear h0 h1 h2 h3
  go_wp2_with fail
  refine HC.out.mono ?_
  rintro e w2 ⟨rfl, hb⟩
  obtain ⟨b', n', s', k', hv, eb, en, es, ek⟩ := kVal_parts (fstK (isNamK s))
  rw [hv]
  have HB := Lib.hid (H3.out.trans (hb.mono H3.out.size))
  have HV := Lib.hid (show kCV (fstK (isNamK s)) = .tuple #[.agg #[.bool b', .int .i64 n'], .bool k'] by rw [eb, en, ek]; rfl)
  have hR2 := H1.out.low hb
  have z0 := hR2.cell 0
  have z1 := hR2.cell 1
  have y0 := hR2.frozen 0
  have y1 := hR2.frozen 1
  have hlt := hR2.lt
  clear hb hv eb en es ek hR2
  simp only [List.getElem?_toArray, List.getElem?_cons_zero, List.getElem?_cons_succ] at z0 z1
  go_wp2_with fail
  refine bodyPost_ret (v := .tuple #[.agg #[.bool b', .int .i64 n'], .bool k']) (by simp [results, Tryd.results15, go_sem, World.cell?_alloc_past, hlt, z0, z1]) rfl ⟨by rw [HV.out], ?_⟩
  have hQ := (HB.out.setCell (p := ⟨w.heap.size + 1, 0, none⟩) (by exact Nat.le_succ _) (Value.bool b')).setCell (p := ⟨w.heap.size + 1, 1, none⟩) (by exact Nat.le_succ _) (Value.int .i64 n')
  exact hQ.alloc hQ.size _

set_option maxHeartbeats 2000000 in
theorem kof_c (x : Int) (w : World) (hN : CausesIn w) : Calls Tryd.prog 17 #[.int .u64 x] w fun e w' => e = .returned (kCV (fstK (isWrd x))) ∧ Below w.heap.size w w' := by
  have HN := Lib.hid hN
  clear hN
  go_enter Tryd.func17, Tryd.ntmps17
  go_upto_region 1 with (fail)
  have h0 := CsAt.new w 24 #[.int .u64 x]
  have h1 : CsAt ((w.alloc (.cells #[.int .u64 x] 24)).alloc (.cells zCa CaT)) (w.heap.size + 1) CaT zCa := by
    have := CsAt.new (w.alloc (.cells #[.int .u64 x] 24)) CaT zCa
    simpa using this
  have h2 : CsAt ((w.alloc (.cells #[.int .u64 x] 24)).alloc (.cells zCa CaT)) w.heap.size 24 #[.int .u64 x] := h0.alloc _
  have h3 : Below w.heap.size w ((w.alloc (.cells #[.int .u64 x] 24)).alloc (.cells zCa CaT)) := ((Below.refl _ _).alloc (Nat.le_refl _) _).alloc (by simp) _
  generalize ((w.alloc (.cells #[.int .u64 x] 24)).alloc (.cells zCa CaT)) = w1 at *
  have H1 := Lib.hid h1
  have HC := Lib.hid (kfind_c 51 #[.pointer (some ⟨w.heap.size, 0, none⟩)] (isWrd x) w1 (HN.out.low h3) (fun k W hk hb => kof1_c _ x _ W ((h2.low hb).cell 0)) (Go.Proofs.enters_of Tryd.func51 (by kernel_rfl) rfl))
  have H3 := Lib.hid h3
  clear h0 h1 h2 h3
  go_wp2_with fail
  refine HC.out.mono ?_
  rintro e w2 ⟨rfl, hb⟩
  obtain ⟨b', n', s', k', hv, eb, en, es, ek⟩ := kVal_parts (fstK (isWrd x))
  rw [hv]
  have HB := Lib.hid (H3.out.trans (hb.mono H3.out.size))
  have HV := Lib.hid (show kCV (fstK (isWrd x)) = .tuple #[.agg #[.bool b', .int .i64 n'], .bool k'] by rw [eb, en, ek]; rfl)
  have hR2 := H1.out.low hb
  have z0 := hR2.cell 0
  have z1 := hR2.cell 1
  have y0 := hR2.frozen 0
  have y1 := hR2.frozen 1
  have hlt := hR2.lt
  clear hb hv eb en es ek hR2
  simp only [List.getElem?_toArray, List.getElem?_cons_zero, List.getElem?_cons_succ] at z0 z1
  go_wp2_with fail
  refine bodyPost_ret (v := .tuple #[.agg #[.bool b', .int .i64 n'], .bool k']) (by simp [results, Tryd.results17, go_sem, World.cell?_alloc_past, hlt, z0, z1]) rfl ⟨by rw [HV.out], ?_⟩
  have hQ := (HB.out.setCell (p := ⟨w.heap.size + 1, 0, none⟩) (by exact Nat.le_succ _) (Value.bool b')).setCell (p := ⟨w.heap.size + 1, 1, none⟩) (by exact Nat.le_succ _) (Value.int .i64 n')
  exact hQ.alloc hQ.size _

end Go.Proofs.YtfjdalepaacmgaaDoor
