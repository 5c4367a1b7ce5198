/-
  Contracts: where a piece stands, by the program; kings.
-/
import Derived.Test.YtbnpphecknhpeaaDoorBg
namespace Go.Proofs.YtbnpphecknhpeaaDoor
open Go.RowKit
set_option linter.unusedSimpArgs false
set_option linter.unusedVariables false

set_option maxHeartbeats 2000000 in
set_option maxRecDepth 100000 in
theorem find_any (P : Nat → Int) (k d : Int) (w : World) :
    Calls Tryd.prog 22 #[.agg (pc P).toArray, .agg #[.int .i64 k, .int .i64 d]] w fun e w' => ∃ v, e = .returned v ∧ Below w.heap.size w w' ∧ w'.ownsRow w.heap.size 3 1 v (fnd P k d 64).length (ivals (fnd P k d 64)) := by
  obtain ⟨i0, hi, hz0, hz1, hz2⟩ := info_parts infoInt
  obtain ⟨X, hX⟩ : ∃ X, X = (pc P).toArray := ⟨_, rfl⟩
  have HX := Lib.hid (two_boxes P k d w X hX 29 25)
  rw [← hX]
  clear hX
  go_enter Tryd.func22, Tryd.ntmps22
  go_upto_region 2 with (fail)
  refine forget_B (fun W => PB W w.heap.size P ∧ W.heap[w.heap.size + 1]? = some (.cells #[.int .i64 k, .int .i64 d] 25 (0, 0)) ∧ Below w.heap.size w W ∧ W.heap.size = w.heap.size + 2) HX.out ?_
  clear HX
  rintro W ⟨hp, hq, hbw, hz⟩
  have HP := Lib.hid hp
  have HQ := Lib.hid hq
  have HB := Lib.hid hbw
  have HZ := Lib.hid hz
  clear hp hq hbw hz
  have hix : ∀ (j : Nat) (hj : j < 64) (W : World), (Instr.index 26 (.agg (nums P 0 128).toArray) (.int .i64 (j : Int))).run Tryd.prog W = .ok (.agg #[.int .i64 (P (j * 2)), .int .i64 (P (j * 2 + 1))]) W := fun j hj W => by
    rw [Nat.mul_comm]; exact index_sqs P j hj W
  refine wp_region_lit ?_
  refine wpList_plain rfl (fun K hK => ?_)
  go_simp
  refine hK _ _ ?_
  clear hK K
  refine wpList_load_mid rfl 26 _ rfl w.heap.size 0 rfl (nums P 0 128) _ HP.out.squares Tryd.underlying26 rfl (by rw [infoSqs, nums_len]) ?_
  generalize (nums P 0 128).toArray = Y at hix ⊢
  have HIX := Lib.hid hix
  clear hix
  go_wp2
  go_loopw [5, 10] (fun v i wr => ∃ j : Nat, j ≤ 64 ∧ i = .int .i64 (j : Int) ∧ Below W.heap.size W wr ∧ wr.ownsRow W.heap.size 3 1 v (fnd P k d j).length (ivals (fnd P k d j))) (fun _ i _ => 64 - (intOf i).toNat)
  case atStart => exact ⟨0, Nat.zero_le _, rfl, Below.refl _ _, World.ownsRow_nil _ _ _ _⟩
  case round =>
    obtain ⟨j, hj, rfl, hb, hown⟩ := hrel
    by_cases hlt : j < 64
    · have hix := HIX.out j hlt
      obtain ⟨q1, q2, qf, qz⟩ := row2 (sl_go HQ.out hb)
      obtain ⟨b, hpe⟩ : ∃ b, pe (P (2 * j)) (P (2 * j + 1)) k d = b := ⟨_, rfl⟩
      rw [Nat.mul_comm 2 j] at hpe
      have HOW := Lib.hid hown
      have HB1 := Lib.hid hb
      clear hown hb
      have hfl := fnd_len P k d j
      have hsx : fnd P k d (j + 1) = fnd P k d j ++ if b then [(j : Int)] else [] := by rw [← hpe, Nat.mul_comm j 2]; rfl
      obtain ⟨L, hL⟩ : ∃ L, fnd P k d j = L := ⟨_, rfl⟩
      rw [hL] at HOW hfl hsx
      have HS := Lib.hid hsx
      clear hL hsx
      have hal := fun (o : Obj) => HB1.out.alloc HB1.out.size o
      have hoal := fun (o : Obj) => owns_go HOW.out ((Below.refl _ _).alloc (Nat.le_refl _) o)
      have HAL := Lib.hid hal
      have HOA := Lib.hid hoal
      clear hal hoal HB1 HOW
      cases b
      · have HS2 := Lib.hid (show fnd P k d (j + 1) = L by rw [HS.out]; simp)
        go_wp2
        go_roundw
        case rel => exact ⟨j + 1, by omega, by go_num, HAL.out _, by rw [HS2.out]; exact HOA.out _⟩
        case measure => simp [intOf]; omega
      · have HS2 := Lib.hid (show fnd P k d (j + 1) = L ++ [(j : Int)] by rw [HS.out]; simp)
        have hm1 : L.length + 1 ≤ maxLen := by unfold maxLen; omega
        go_upto_region 6 with (fail)
        refine forget_B (fun W' => Below W.heap.size W W' ∧ W'.ownsRow W.heap.size 3 1 u5 L.length (ivals L)) ⟨HAL.out _, HOA.out _⟩ ?_
        clear HAL HOA q1 q2 qf qz hix hpe
        rintro wr ⟨hbd, hod⟩
        have HBD := Lib.hid hbd
        have HOD := Lib.hid hod
        clear hbd hod
        go_wp2_with (at_builtin; refine wpList_append_lies _ rfl (.tmp 17) (.tmp 19) 30 rfl W.heap.size 3 i0 (.int .i64 0) 1 8 Tryd.underlying30 hi hz0 hz1 hz2 rfl (by decide) _ L.length (ivals L) rfl (owns_go HOD.out ((Below.refl _ _).alloc (Nat.le_refl _) _)) ⟨wr.heap.size, 0, none⟩ 1 1 [.int .i64 (j : Int)] rfl rfl (World.news_of_block (heap_alloc_new _ _)) ?c2 (by decide) hm1 (by omega) (by have h : W.heap.size ≤ wr.heap.size := HBD.out.size; simp; omega) (wr.heap.size + 1) (by simp) ?next)
        case c2 => first | rfl | (intro y hy; simp at hy; subst hy; rfl)
        case next =>
          intro g1 cap1 w4 hown1 hgrow1 hat1 hlt3
          rw [ivals_snoc] at hown1
          have HB4 := Lib.hid ((HBD.out.alloc HBD.out.size _).grown hgrow1 (by have h : W.heap.size ≤ wr.heap.size := HBD.out.size; simp; omega) (fun b e => (HOD.out.lt b e).1))
          have HO4 := Lib.hid hown1
          clear hgrow1 hown1 hat1 HBD HOD
          go_wp2
          go_roundw
          case rel => exact ⟨j + 1, by omega, by go_num, HB4.out, by rw [HS2.out, show (L ++ [(j : Int)]).length = L.length + 1 by simp]; exact HO4.out⟩
          case measure => simp [intOf]; omega
    · obtain rfl : j = 64 := by omega
      have HO := Lib.hid hown
      have HBK := Lib.hid hb
      clear hown hb
      go_wp2
      go_ret
      exact ⟨_, rfl, HB.out.trans (HBK.out.mono (by have := HZ.out; omega)), owns_base HO.out (by have := HZ.out; omega)⟩
/-- the square of a side's king -/
def kingN (P : Nat → Int) (d : Int) : Int := (fnd P 6 d 64).headD (-1)
theorem kingN_eq (P : Nat → Int) (d : Int) : kingN P d = (fnd P 6 d 64).headD (-1) := by unfold kingN; rfl
theorem fnd_headD (P : Nat → Int) (k d : Int) (j : Nat) (h : fnd P k d j = []) (hp : pe (P (2 * j)) (P (2 * j + 1)) k d = true) (n : Nat) (hn : j < n) : (fnd P k d n).headD (-1) = j := by
  obtain ⟨m, rfl⟩ : ∃ m, n = j + 1 + m := ⟨n - (j + 1), by omega⟩
  clear hn
  have : ∃ r, fnd P k d (j + 1 + m) = (j : Int) :: r := by
    induction m with
    | zero => exact ⟨[], by show fnd P k d j ++ _ = _; rw [h, if_pos hp]; rfl⟩
    | succ m ih =>
      obtain ⟨r, hr⟩ := ih
      exact ⟨_, by show fnd P k d (j + 1 + m) ++ _ = _; rw [hr, List.cons_append]⟩
  obtain ⟨r, hr⟩ := this
  rw [hr]; rfl
end Go.Proofs.YtbnpphecknhpeaaDoor
