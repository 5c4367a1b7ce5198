/-
  Contracts: how many asks, bytes there are (size of the laws about makers).
-/
import Derived.Test.YtoocfkaclhgjeaaDoorCopy
namespace Go.Proofs.YtoocfkaclhgjeaaDoor
open Go.RowKit
set_option linter.unusedVariables false
set_option linter.unusedSimpArgs false

/-- a row of asks -/
def AskRow (B : Nat) (w : World) (p : Option Addr) (m : Nat) (X : Nat → Ask) : Prop :=
  m = 0 ∨ ∃ b off, p = some ⟨b, off, none⟩ ∧ b < B ∧ ∀ i, i < m → w.cell? ⟨b, off + i * 4, none⟩ = some (.int .i64 (X i).what) ∧ w.cell? ⟨b, off + i * 4 + 1, none⟩ = some (.slice (X i).kp (X i).kn (X i).kc) ∧
    w.cell? ⟨b, off + i * 4 + 2, none⟩ = some (.slice (X i).p (X i).m (X i).c) ∧ w.cell? ⟨b, off + i * 4 + 3, none⟩ = some (.int .i64 (X i).k)
theorem AskRow.below {B : Nat} {w w' : World} {p : Option Addr} {m : Nat} {X : Nat → Ask} (h : AskRow B w p m X) (hb : Below B w w') : AskRow B w' p m X := by
  rcases h with h | ⟨b, off, h1, h2, h3⟩
  · exact .inl h
  · refine .inr ⟨b, off, h1, h2, fun i hi => ?_⟩
    obtain ⟨c0, c1, c2, c3⟩ := h3 i hi
    exact ⟨(hb.cell (p := ⟨b, off + i * 4, none⟩) h2).trans c0, (hb.cell (p := ⟨b, off + i * 4 + 1, none⟩) h2).trans c1, (hb.cell (p := ⟨b, off + i * 4 + 2, none⟩) h2).trans c2, (hb.cell (p := ⟨b, off + i * 4 + 3, none⟩) h2).trans c3⟩
theorem AskRow.mono {B B' : Nat} {w : World} {p : Option Addr} {m : Nat} {X : Nat → Ask} (h : AskRow B w p m X) (hB : B ≤ B') : AskRow B' w p m X := by
  rcases h with h | ⟨b, off, h1, h2, h3⟩
  · exact .inl h
  · exact .inr ⟨b, off, h1, Nat.lt_of_lt_of_le h2 hB, h3⟩
def Ask.tot (x : Ask) : Nat := x.kn + x.m + pos x.ln x.m
def totA (X : Nat → Ask) : Nat → Nat
  | 0 => 0
  | k + 1 => totA X k + (X k).tot
/-- what is asked is not longer than the machine bears -/
structure Ask.fits (x : Ask) (B : Nat) (w : World) : Prop where
  kn : x.kn ≤ 140737488351232
  m : x.m ≤ 5864062014634
  ln : ∀ i, i < x.m → x.ln i ≤ 140737488351232
  rows : Reads B w x.p x.m (fun i => .slice (x.P i) (x.ln i) (x.C i))
theorem Ask.fits.below {x : Ask} {B : Nat} {w w' : World} (h : x.fits B w) (hb : Below B w w') : x.fits B w' := ⟨h.kn, h.m, h.ln, h.rows.below hb⟩
set_option maxHeartbeats 4000000 in
set_option maxRecDepth 100000 in
theorem size04_any (w : World) (p : Option Addr) (m c : Nat) (X : Nat → Ask) (hm : m ≤ 5864062014634) (hr : AskRow w.heap.size w p m X) (hf : ∀ i, i < m → (X i).fits w.heap.size w) :
    Calls Tryd.prog 6 #[.slice p m c] w fun e w' => ∃ x : Nat, e = .returned (.int .i64 (x : Int)) ∧ (x ≤ 400 → x = m + totA X m) ∧ x ≤ 844424930107392 ∧ Below w.heap.size w w' := by
  have HR := Lib.hid hr
  have HF := Lib.hid hf
  clear hr hf
  go_enter Tryd.func6, Tryd.ntmps6
  go_wp2
  go_loopw [3, 4] (fun nv iv wr => ∃ k x : Nat, k ≤ m ∧ iv = .int .i64 (k : Int) ∧ nv = .int .i64 (x : Int) ∧ (x ≤ 400 → x = m + totA X k) ∧ x ≤ 844424930107392 ∧ Below w.heap.size w wr) (fun _ iv _ => m - (intOf iv).toNat)
  case atStart => exact ⟨0, m, Nat.zero_le _, rfl, rfl, fun _ => by simp [totA], by omega, Below.refl _ _⟩
  case round =>
    obtain ⟨k, x, hk, rfl, rfl, hx, hxb, hbk⟩ := hrel
    have HX := Lib.hid hx
    have HBK := Lib.hid hbk
    clear hx hbk
    by_cases hlt : k < m
    · by_cases h400 : (x : Int) ≤ 400
      · rcases HR.out.below HBK.out with h0 | ⟨b, off, rfl, hbb, hcc⟩
        · omega
        obtain ⟨_, c1, c2, _⟩ := hcc k hlt
        have hfk := HF.out k hlt
        have b1 := hfk.kn
        have b2 := hfk.m
        have HFK := Lib.hid hfk
        clear hcc hfk
        obtain ⟨kp, hkp⟩ : ∃ y, (X k).kp = y := ⟨_, rfl⟩
        obtain ⟨kn, hkn⟩ : ∃ y, (X k).kn = y := ⟨_, rfl⟩
        obtain ⟨kc, hkc⟩ : ∃ y, (X k).kc = y := ⟨_, rfl⟩
        obtain ⟨rp, hrp⟩ : ∃ y, (X k).p = y := ⟨_, rfl⟩
        obtain ⟨rm, hrm⟩ : ∃ y, (X k).m = y := ⟨_, rfl⟩
        obtain ⟨rc, hrc⟩ : ∃ y, (X k).c = y := ⟨_, rfl⟩
        rw [hkp, hkn, hkc] at c1
        rw [hrp, hrm, hrc] at c2
        rw [hkn] at b1
        rw [hrm] at b2
        have HTK := Lib.hid (show totA X (k + 1) = totA X k + (kn + rm + pos (X k).ln rm) from by show totA X k + (X k).tot = _; unfold Ask.tot; rw [hkn, hrm])
        have HRW := Lib.hid (show Reads w.heap.size w rp rm (fun i => .slice ((X k).P i) ((X k).ln i) ((X k).C i)) from by rw [← hrp, ← hrm]; exact HFK.out.rows)
        have HLN := Lib.hid (show ∀ i, i < rm → (X k).ln i ≤ 140737488351232 from by rw [← hrm]; exact HFK.out.ln)
        have hx2 := HX.out (by omega)
        have HX2 := Lib.hid hx2
        clear hkp hkn hkc hrp hrm hrc HFK hx2
        go_wp2
        go_region
        go_wp2
        obtain ⟨wo, hwo⟩ : ∃ wo : World, wo = wr := ⟨_, rfl⟩
        subst hwo
        go_loopw [3, 5] (fun nv jv wr => ∃ j y : Nat, j ≤ rm ∧ jv = .int .i64 (j : Int) ∧ nv = .int .i64 (y : Int) ∧ (y ≤ 400 → y = x + kn + rm + pos (X k).ln j) ∧ y ≤ 844424930107392 ∧ Below w.heap.size w wr ∧ wr.cell? ⟨b, off + k * 4 + 2, none⟩ = some (.slice rp rm rc)) (fun _ jv _ => rm - (intOf jv).toNat)
        case atStart => exact ⟨0, x + kn + rm, Nat.zero_le _, rfl, by push_cast; rfl, fun _ => by simp [pos], by omega, HBK.out.drew, c2⟩
        case round =>
          clear HBK c1 c2
          obtain ⟨j, y, hj, rfl, rfl, hy, hyb, hbj, c2⟩ := hrel
          have HY := Lib.hid hy
          have HBJ := Lib.hid hbj
          clear hy hbj
          by_cases hjl : j < rm
          · by_cases hy4 : (y : Int) ≤ 400
            · rcases HRW.out.below HBJ.out with h0 | ⟨b3, off3, rfl, hbb3, hc3⟩
              · omega
              have c3 : wr.cell? ⟨b3, off3 + j, none⟩ = some (.slice ((X k).P j) ((X k).ln j) ((X k).C j)) := hc3 j hjl
              have hl1 := HLN.out j hjl
              clear hc3
              go_wp2
              go_roundw
              case rel => exact ⟨j + 1, y + (X k).ln j, by omega, by go_num, by go_num, fun h => by simp only [pos]; have := HY.out (by omega); omega, by omega, HBJ.out, c2⟩
              case measure => simp [intOf]; omega
            · have hdd : decide ((y : Int) ≤ 400) = false := by simp; omega
              go_wp2
              go_roundw
              case rel => exact ⟨k + 1, y, by omega, by go_num, rfl, fun h => by omega, hyb, HBJ.out⟩
              case measure => simp [intOf]; omega
          · obtain rfl : j = rm := by omega
            by_cases hy4 : (y : Int) ≤ 400
            all_goals
              go_wp2
              go_roundw
              case rel => exact ⟨k + 1, y, by omega, by go_num, rfl, fun h => by have h1 := HY.out h; have h2 := HX2.out; have h3 := HTK.out; omega, hyb, HBJ.out⟩
              case measure => simp [intOf]; omega
      · go_wp2
        go_ret
        exact ⟨x, rfl, fun h => by omega, hxb, HBK.out⟩
    · obtain rfl : k = m := by omega
      by_cases h400 : (x : Int) ≤ 400
      all_goals
        go_wp2
        go_ret
        exact ⟨x, rfl, HX.out, hxb, HBK.out⟩
end Go.Proofs.YtoocfkaclhgjeaaDoor
