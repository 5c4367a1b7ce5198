/-
  EndsAll: kings and a queen, either side to move; Half about its limits.
-/
import Derived.Test.YthinkiljhkanhaaGreatDoorUd
namespace Go.Proofs.YthinkiljhkanhaaGreatDoor
open Go.RowKit Go.Sort
set_option linter.unusedSimpArgs false
set_option linter.unusedVariables false
set_option maxRecDepth 20000

def kqN (i : Nat) : Nat := [45, 46, 47, 61, 30].getD i 0
theorem kq_cell : ∀ i, i < 5 → (#[.int .i64 45, .int .i64 46, .int .i64 47, .int .i64 61, .int .i64 30] : Array Value)[i]? = some (.int .i64 (kqN i : Nat)) ∧ kqN i < 64 := fun i hi => by
  have : i = 0 ∨ i = 1 ∨ i = 2 ∨ i = 3 ∨ i = 4 := by omega
  rcases this with rfl | rfl | rfl | rfl | rfl <;> exact ⟨rfl, by decide⟩
theorem kq_get : ∀ i, i < 5 → ∀ h, ([.int .i64 45, .int .i64 46, .int .i64 47, .int .i64 61, .int .i64 30] : List Value)[i]'h = .int .i64 (kqN i : Nat) := fun i hi h => by
  have : i = 0 ∨ i = 1 ∨ i = 2 ∨ i = 3 ∨ i = 4 := by omega
  rcases this with rfl | rfl | rfl | rfl | rfl <;> rfl
def hvN (i : Nat) : Int := [-9223372036854775808, -1, 0, 99, 100, 149, 150, 1024, 1025, 9223372036854775807].getD i 0
theorem hv_cell : ∀ i, i < 10 → (#[.int .i64 (-9223372036854775808), .int .i64 (-1), .int .i64 0, .int .i64 99, .int .i64 100, .int .i64 149, .int .i64 150, .int .i64 1024, .int .i64 1025, .int .i64 9223372036854775807] : Array Value)[i]? = some (.int .i64 (hvN i)) := fun i hi => by
  have : i = 0 ∨ i = 1 ∨ i = 2 ∨ i = 3 ∨ i = 4 ∨ i = 5 ∨ i = 6 ∨ i = 7 ∨ i = 8 ∨ i = 9 := by omega
  rcases this with rfl | rfl | rfl | rfl | rfl | rfl | rfl | rfl | rfl | rfl <;> rfl
/-- positions of which all is told -/
theorem endsTellB {B : Nat} {w : World} (hgb : GB B w) (hgs : GS B w) (hgm : GM B w) (hgp : GP B w) (hB : B ≤ w.heap.size) (P : Nat → Int) (d : Int) (X : Array Value) (hX : X = (pc P).toArray) (W : World) (h : Below w.heap.size w W) :
    Calls Tryz.prog 8 #[.agg X, .int .i64 d] W fun e w' => e = .returned (.bool true) ∧ Below W.heap.size W w' := by
  subst hX
  exact endsTell_any P d W B (hgb.below (h.mono hB)) (hgs.below (h.mono hB)) (hgm.below (h.mono hB)) (hgp.below (h.mono hB)) (Nat.le_trans hB h.size)
theorem ofB {B : Nat} {w : World} (hgb : GB B w) (hgs : GS B w) (hgm : GM B w) (hgp : GP B w) (hB : B ≤ w.heap.size) (P : Nat → Int) (X : Array Value) (hX : X = (pc P).toArray) (r y : Int) (hr : ofR P = r) (hy : ofY P = y) (W : World) (h : Below w.heap.size w W) :
    Calls Tryz.prog 34 #[.agg X] W fun e w' => e = .returned (.tuple #[.int .i64 r, .int .i64 y]) ∧ Below W.heap.size W w' := by
  subst hX; subst hr; subst hy
  exact of_any P W B (hgb.below (h.mono hB)) (hgs.below (h.mono hB)) (hgm.below (h.mono hB)) (hgp.below (h.mono hB)) (Nat.le_trans hB h.size)
theorem rOfB (P : Nat → Int) (X : Array Value) (hX : X = (pc P).toArray) (r y : Int) (hr : ofR P = r) (hy : ofY P = y) (W : World) :
    Calls Tryz.prog 35 #[.agg X] W fun e w' => e = .returned (.tuple #[.int .i64 r, .int .i64 y]) ∧ Below W.heap.size W w' := by
  subst hX; subst hr; subst hy
  exact rOf_any P W
set_option maxHeartbeats 16000000 in
set_option maxRecDepth 100000 in
theorem endsAll_any (w : World) (B : Nat) (hgb : GB B w) (hgs : GS B w) (hgm : GM B w) (hgp : GP B w) (hB : B ≤ w.heap.size) :
    Calls Tryz.prog 9 #[] w fun e w' => e = .returned (.bool true) ∧ Below w.heap.size w w' := by
  have ET := Lib.hid (fun P d X hX W h => endsTellB hgb hgs hgm hgp hB P d X hX W h)
  have OF := Lib.hid (fun P X hX r y hr hy W h => ofB hgb hgs hgm hgp hB P X hX r y hr hy W h)
  have AW := Lib.hid (fun W (h : Below w.heap.size w W) => awake11_any W B (hgb.below (h.mono hB)) (hgs.below (h.mono hB)) (hgm.below (h.mono hB)) (hgp.below (h.mono hB)) (Nat.le_trans hB h.size))
  clear hgb hgs hgm hgp
  have HB0 := Lib.hid (Below.refl w.heap.size w)
  go_enter Tryz.func9, Tryz.ntmps9
  go_wp2
  go_loopw [1] (fun v wr => ∃ q : Nat, q ≤ 64 ∧ v = .int .i64 (q : Int) ∧ Below w.heap.size w wr) (fun v _ => 64 - (intOf v).toNat)
  case atStart => exact ⟨0, Nat.zero_le _, rfl, HB0.out⟩
  case round =>
    clear HB0
    obtain ⟨q, hq, rfl, hb⟩ := hrel
    have HB := Lib.hid hb
    clear hb
    by_cases hlt : q < 64
    · have q0 : (0 : Int) ≤ (q : Int) := by omega
      have q1 : (q : Int) < 64 := by omega
      go_wp2
      go_loopw [2] (fun v wi => ∃ k : Nat, k ≤ 5 ∧ v = .int .i64 (k : Int) ∧ Below w.heap.size w wi) (fun v _ => 5 - (intOf v).toNat)
      case atStart => exact ⟨0, Nat.zero_le _, rfl, HB.out⟩
      case round =>
        clear HB
        obtain ⟨k, hk, rfl, hb⟩ := hrel
        have HB := Lib.hid hb
        clear hb
        by_cases hlk : k < 5
        · obtain ⟨kc, kv⟩ := kq_cell k hlk
          have kg := kq_get k hlk
          obtain ⟨x, hx⟩ : ∃ x, kqN k = x := ⟨_, rfl⟩
          rw [hx] at kc kv kg
          have n0 : (0 : Int) ≤ (k : Int) := by omega
          have n1 : (k : Int) < 5 := by omega
          have x0 : (0 : Int) ≤ (x : Int) := by omega
          have x1 : (x : Int) < 64 := by omega
          obtain ⟨P, hP⟩ : ∃ P, bareN x 63 q = P := ⟨_, rfl⟩
          obtain ⟨X, hX⟩ : ∃ X, X = (pc P).toArray := ⟨_, rfl⟩
          have MB := Lib.hid (fun W => bare_any x 63 q kv (by omega) hlt W)
          rw [hP, ← hX] at MB
          obtain ⟨R, hR⟩ : ∃ R, setN P 128 0 = R := ⟨_, rfl⟩
          obtain ⟨Y, hY⟩ : ∃ Y, Y = (pc R).toArray := ⟨_, rfl⟩
          obtain ⟨r1, hr1⟩ : ∃ z, ofR P = z := ⟨_, rfl⟩
          obtain ⟨y1, hy1⟩ : ∃ z, ofY P = z := ⟨_, rfl⟩
          obtain ⟨r2, hr2⟩ : ∃ z, ofR R = z := ⟨_, rfl⟩
          obtain ⟨y2, hy2⟩ : ∃ z, ofY R = z := ⟨_, rfl⟩
          have O1 := Lib.hid (OF.out P X hX r1 y1 hr1 hy1)
          have O2 := Lib.hid (OF.out R Y hY r2 y2 hr2 hy2)
          have D1 := Lib.hid (rOfB P X hX r1 y1 hr1 hy1)
          have D2 := Lib.hid (rOfB R Y hY r2 y2 hr2 hy2)
          have HX := Lib.hid hX
          have HY := Lib.hid hY
          have HRR := Lib.hid hR
          clear hx hP hX hR hY hr1 hy1 hr2 hy2
          go_wp2_with fail
          refine (MB.out _).mono ?_
          rintro e w1 ⟨rfl, hb⟩
          replace HB := Lib.hid ((HB.out.alloc HB.out.size _).trans (hb.mono (Nat.le_trans HB.out.size (by simp))))
          clear hb MB kc kv kg
          dsimp only
          refine list_go (by assumption) ?_
          go_wp2_with (refine wpList_new X P HX.out (by rfl) (by rfl) ?_)
          intro W2 hp2 hb2 hz2
          have HP := Lib.hid hp2
          replace HB := Lib.hid (HB.out.trans (hb2.mono HB.out.size))
          clear hp2 hb2 hz2
          have HL3 := Lib.hid HP.out.lt
          generalize w1.heap.size = b3 at *
          try simp only [Act.put, List.setIfInBounds_toArray, List.set_cons_zero, List.set_cons_succ]
          go_wp2_with (first | refine wpList_pos (by rfl) _ (by rfl) b3 P X HX.out (by rfl) HP.out ?_ | refine wpList_new X P HX.out (by rfl) (by rfl) ?_)
          intro W3 hp3 hb3 hz3
          have HBW := Lib.hid (show w.heap.size ≤ W2.heap.size from HB.out.size)
          have HL4 := Lib.hid (show b3 < W2.heap.size from HP.out.lt)
          have HP4 := Lib.hid hp3
          replace HP := Lib.hid (HP.out.go hb3)
          replace HB := Lib.hid (HB.out.trans (hb3.mono HB.out.size))
          clear hp3 hb3 hz3 HL3
          generalize W2.heap.size = b4 at *
          try simp only [Act.put, List.setIfInBounds_toArray, List.set_cons_zero, List.set_cons_succ]
          have e1 := HP4.out.cell 128 (by omega)
          have e3 := HP4.out.fr 128
          have HP5 := Lib.hid (HP4.out.set 128 0 (by omega))
          rw [HRR.out] at HP5
          generalize P 128 = qq at e1
          go_upto_region 10 with (fail)
          refine forget_B (fun W => PB W b3 P ∧ PB W b4 R ∧ Below w.heap.size w W) ⟨HP.out.gr (gr1_B (.int .i64 0)) (by intro e; have h1 := Option.some.inj e; have h2 := HL4.out; omega), HP5.out, HB.out.setCell (p := ⟨b4, 128, none⟩) HBW.out _⟩ ?_
          clear HP HP4 HP5 HB e1 e3 HL4 HBW HRR
          rintro W4 ⟨h1, h2, h3⟩
          have HP := Lib.hid h1
          have HR := Lib.hid h2
          have HB := Lib.hid h3
          clear h1 h2 h3
          go_wp2_with (refine wpList_pos (by rfl) _ (by rfl) b3 P X HX.out (by rfl) HP.out ?_)
          refine (O1.out _ HB.out).mono ?_
          rintro e w5 ⟨rfl, hb⟩
          replace HP := Lib.hid (HP.out.go hb)
          replace HR := Lib.hid (HR.out.go hb)
          replace HB := Lib.hid (HB.out.trans (hb.mono HB.out.size))
          clear hb O1
          dsimp only
          refine list_go (by assumption) ?_
          go_wp2_with (refine wpList_pos (by rfl) _ (by rfl) b3 P X HX.out (by rfl) HP.out ?_)
          refine (D1.out _).mono ?_
          rintro e w6 ⟨rfl, hb⟩
          replace HP := Lib.hid (HP.out.go hb)
          replace HR := Lib.hid (HR.out.go hb)
          replace HB := Lib.hid (HB.out.trans (hb.mono HB.out.size))
          clear hb D1
          dsimp only
          refine list_go (by assumption) ?_
          go_wp2_with (refine wpList_pos (by rfl) _ (by rfl) b4 R Y HY.out (by rfl) HR.out ?_)
          refine (O2.out _ HB.out).mono ?_
          rintro e w7 ⟨rfl, hb⟩
          replace HR := Lib.hid (HR.out.go hb)
          replace HB := Lib.hid (HB.out.trans (hb.mono HB.out.size))
          clear hb O2 HP
          dsimp only
          refine list_go (by assumption) ?_
          go_wp2_with (refine wpList_pos (by rfl) _ (by rfl) b4 R Y HY.out (by rfl) HR.out ?_)
          refine (D2.out _).mono ?_
          rintro e w8 ⟨rfl, hb⟩
          replace HB := Lib.hid (HB.out.trans (hb.mono HB.out.size))
          clear hb D2 HR
          dsimp only
          refine list_go (by assumption) ?_
          have f1 : (r1 != r1) = false := by simp
          have f2 : (y1 != y1) = false := by simp
          have f3 : (r2 != r2) = false := by simp
          have f4 : (y2 != y2) = false := by simp
          go_wp2
          go_roundw
          case rel => exact ⟨k + 1, by omega, by go_num, HB.out⟩
          case measure => simp [intOf]; omega
        · obtain rfl : k = 5 := by omega
          rw [show ((5 : Nat) : Int) = 5 from rfl]
          go_wp2
          go_roundw
          case rel => exact ⟨q + 1, by omega, by go_num, HB.out⟩
          case measure => simp [intOf]; omega
    · obtain rfl : q = 64 := by omega
      rw [show ((64 : Nat) : Int) = 64 from rfl]
      go_upto_region 17 with (fail)
      obtain ⟨hb, hhb⟩ : ∃ x, wr.heap.size = x := ⟨_, rfl⟩
      refine forget_B (fun W => (∀ i, i < 10 → W.cell? ⟨hb, i, none⟩ = some (.int .i64 (hvN i))) ∧ hb < W.heap.size ∧ Below w.heap.size w W) ⟨fun i hi => by rw [cell_of_row _ _ i _ _ (0, 0) (sl_at hhb.symm)]; exact hv_cell i hi, by rw [← hhb]; simp, HB.out.alloc HB.out.size _⟩ ?_
      clear HB
      rw [hhb]
      clear hhb
      rintro W1 ⟨h1, h2, h3⟩
      have HH := Lib.hid h1
      have HL := Lib.hid h2
      have HB := Lib.hid h3
      clear h1 h2 h3
      obtain ⟨S0, hS0⟩ : ∃ S, S = (pc startN).toArray := ⟨_, rfl⟩
      obtain ⟨E0, hE0⟩ : ∃ S, S = (pc emptyN).toArray := ⟨_, rfl⟩
      have MS := Lib.hid (fun W => rStart_any W)
      have ME := Lib.hid (fun W => rEmpty_any W)
      rw [← hS0] at MS
      rw [← hE0] at ME
      have HS0 := Lib.hid hS0
      have ETE := Lib.hid (ET.out emptyN 1 E0 hE0)
      obtain ⟨KP, hKP⟩ : ∃ P, bareN 45 53 0 = P := ⟨_, rfl⟩
      obtain ⟨KX, hKX⟩ : ∃ X, X = (pc KP).toArray := ⟨_, rfl⟩
      have MK := Lib.hid (fun W => bare_any 45 53 0 (by omega) (by omega) (by omega) W)
      rw [hKP, ← hKX] at MK
      have ETK := Lib.hid (ET.out KP 0 KX hKX)
      clear hS0 hE0 hKP hKX
      go_wp2
      go_loopw [14] (fun v wi => ∃ i : Nat, i ≤ 10 ∧ v = .int .i64 (i : Int) ∧ Below W1.heap.size W1 wi) (fun v _ => 10 - (intOf v).toNat)
      case atStart => exact ⟨0, Nat.zero_le _, rfl, Below.refl _ _⟩
      case round =>
        obtain ⟨i, hi, rfl, hbi⟩ := hrel
        replace HB := Lib.hid (HB.out.trans (hbi.mono HB.out.size))
        have HBI := Lib.hid hbi
        by_cases hlt : i < 10
        · have e0 : wr.cell? ⟨hb, i, none⟩ = some (.int .i64 (hvN i)) := by rw [hbi.cell (p := ⟨hb, i, none⟩) HL.out]; exact HH.out i hlt
          have HE0 := Lib.hid e0
          obtain ⟨hv, hhv⟩ : ∃ x, hvN i = x := ⟨_, rfl⟩
          rw [hhv] at HE0
          clear e0 hhv hbi
          have i0 : (0 : Int) ≤ (i : Int) := by omega
          have i1 : (i : Int) < 10 := by omega
          go_wp2_with fail
          refine (MS.out _).mono ?_
          rintro e w1 ⟨rfl, hb1⟩
          replace HB := Lib.hid (HB.out.trans (hb1.mono HB.out.size))
          replace HBI := Lib.hid (HBI.out.trans (hb1.mono HBI.out.size))
          have h7 := hb1.cell (p := ⟨hb, i, none⟩) (block_lt_of_cell HE0.out)
          replace HE0 := Lib.hid (h7.trans HE0.out)
          clear hb1 h7
          dsimp only
          refine list_go (by assumption) ?_
          go_wp2_with (refine wpList_new S0 startN HS0.out (by rfl) (by rfl) ?_)
          intro W2 hp2 hb2 hz2
          have HBW := Lib.hid (show w.heap.size ≤ w1.heap.size ∧ W1.heap.size ≤ w1.heap.size from ⟨HB.out.size, HBI.out.size⟩)
          have HP := Lib.hid hp2
          replace HB := Lib.hid (HB.out.trans (hb2.mono HB.out.size))
          replace HBI := Lib.hid (HBI.out.trans (hb2.mono HBI.out.size))
          have e0 := (hb2.cell (p := ⟨hb, i, none⟩) (block_lt_of_cell HE0.out)).trans HE0.out
          clear hp2 hb2 hz2 HE0
          generalize w1.heap.size = b5 at *
          try simp only [Act.put, List.setIfInBounds_toArray, List.set_cons_zero, List.set_cons_succ]
          have e1 := HP.out.cell 131 (by omega)
          have e3 := HP.out.fr 131
          have HP5 := Lib.hid (HP.out.set 131 hv (by omega))
          obtain ⟨R, hR⟩ : ∃ R, setN startN 131 hv = R := ⟨_, rfl⟩
          obtain ⟨Y, hY⟩ : ∃ Y, Y = (pc R).toArray := ⟨_, rfl⟩
          rw [hR] at HP5
          have HY := Lib.hid hY
          have ETR := Lib.hid (fun d => ET.out R d Y hY)
          clear hR hY
          generalize startN 131 = qq at e1
          go_upto_region 22 with (fail)
          refine forget_B (fun W => PB W b5 R ∧ Below w.heap.size w W ∧ Below W1.heap.size W1 W) ⟨HP5.out, HB.out.setCell (p := ⟨b5, 131, none⟩) HBW.out.1 _, HBI.out.setCell (p := ⟨b5, 131, none⟩) HBW.out.2 _⟩ ?_
          clear HP HP5 HB HBI e0 e1 e3 HBW
          rintro W4 ⟨h1, h2, h3⟩
          have HP := Lib.hid h1
          have HB := Lib.hid h2
          have HBI := Lib.hid h3
          clear h1 h2 h3
          go_wp2_with (refine wpList_pos (by rfl) _ (by rfl) b5 R Y HY.out (by rfl) HP.out ?_)
          refine (ETR.out _ _ HB.out).mono ?_
          rintro e w5 ⟨rfl, hb⟩
          replace HBI := Lib.hid (HBI.out.trans (hb.mono HBI.out.size))
          clear hb ETR HP HB
          dsimp only
          refine list_go (by assumption) ?_
          go_wp2
          go_roundw
          case rel => exact ⟨i + 1, by omega, by go_num, HBI.out⟩
          case measure => simp [intOf]; omega
        · obtain rfl : i = 10 := by omega
          rw [show ((10 : Nat) : Int) = 10 from rfl]
          clear hbi HBI HH HL MS
          go_wp2_with fail
          refine (MK.out _).mono ?_
          rintro e w1 ⟨rfl, hb⟩
          replace HB := Lib.hid (HB.out.trans (hb.mono HB.out.size))
          clear hb MK
          dsimp only
          refine list_go (by assumption) ?_
          go_wp2_with fail
          refine (ETK.out _ HB.out).mono ?_
          rintro e w2 ⟨rfl, hb⟩
          replace HB := Lib.hid (HB.out.trans (hb.mono HB.out.size))
          clear hb ETK
          dsimp only
          refine list_go (by assumption) ?_
          go_wp2_with fail
          refine (ME.out _).mono ?_
          rintro e w3 ⟨rfl, hb⟩
          replace HB := Lib.hid (HB.out.trans (hb.mono HB.out.size))
          clear hb ME
          dsimp only
          refine list_go (by assumption) ?_
          go_wp2_with fail
          refine (ETE.out _ HB.out).mono ?_
          rintro e w4 ⟨rfl, hb⟩
          replace HB := Lib.hid (HB.out.trans (hb.mono HB.out.size))
          clear hb ETE
          dsimp only
          refine list_go (by assumption) ?_
          go_wp2_with fail
          refine (AW.out _ HB.out).mono ?_
          rintro e w5 ⟨rfl, hb⟩
          replace HB := Lib.hid (HB.out.trans (hb.mono HB.out.size))
          clear hb AW
          dsimp only
          refine list_go (by assumption) ?_
          go_wp2
          go_ret
          exact ⟨rfl, HB.out⟩
end Go.Proofs.YthinkiljhkanhaaGreatDoor
