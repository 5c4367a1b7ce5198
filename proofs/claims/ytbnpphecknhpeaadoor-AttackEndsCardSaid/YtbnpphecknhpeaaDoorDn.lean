/-
  Contracts: the document's From, To.
-/
import Derived.Test.YtbnpphecknhpeaaDoorDl
import Derived.Test.YtbnpphecknhpeaaDoorDo
namespace Go.Proofs.YtbnpphecknhpeaaDoor
open Go.RowKit Go.Sort
set_option linter.unusedSimpArgs false
set_option linter.unusedVariables false

set_option maxHeartbeats 4000000 in
set_option maxRecDepth 100000 in
theorem rFrom_any (P : Nat → Int) (s : Int) (w : World) :
    Calls Tryd.prog 11 #[.agg (pc P).toArray, .int .i64 s] w fun e w' => ∃ v, e = .returned v ∧ Below w.heap.size w w' ∧ w'.ownsRow w.heap.size 3 1 v (rFromL P s).length (ivals (rFromL P s)) := by
  obtain ⟨i0, hi, hz0, hz1, hz2⟩ := info_parts infoInt
  obtain ⟨X, hX⟩ : ∃ X, X = (pc P).toArray := ⟨_, rfl⟩
  have HA := Lib.hid (fun a b ha hb W => rAtt_any P a b ha hb W)
  rw [← hX] at HA ⊢
  have HX := Lib.hid hX
  have HP := Lib.hid (show PB (w.alloc (.cells X 29)) w.heap.size P by subst hX; exact PB.new rfl)
  have HB := Lib.hid (below_new (w := w) (.cells X 29))
  clear hX
  go_enter Tryd.func11, Tryd.ntmps11
  go_upto_region 1 with (fail)
  generalize w.alloc (.cells X 29) = W at *
  rcases sq_cases s with ⟨h1, hs⟩ | ⟨h1, hs⟩ | ⟨s0, s1, hs⟩
  · have HF := Lib.hid (show rFromL P s = [] by unfold rFromL; rw [hs]; rfl)
    clear hs HA
    go_wp2
    go_loopw [5, 6] (fun v i wr => v = .slice none 0 0 ∧ i = .int .i64 0 ∧ wr = W) (fun _ i _ => 1)
    case atStart => exact ⟨rfl, rfl, rfl⟩
    case round =>
      obtain ⟨rfl, rfl, rfl⟩ := hrel
      go_wp2
      go_ret
      exact ⟨.slice none 0 0, rfl, HB.out, by rw [HF.out]; exact World.ownsRow_nil _ _ _ _⟩
  · have HF := Lib.hid (show rFromL P s = [] by unfold rFromL; rw [hs]; rfl)
    have hs0 : 0 ≤ s := by omega
    clear hs HA
    go_wp2
    go_loopw [5, 6] (fun v i wr => v = .slice none 0 0 ∧ i = .int .i64 0 ∧ wr = W) (fun _ i _ => 1)
    case atStart => exact ⟨rfl, rfl, rfl⟩
    case round =>
      obtain ⟨rfl, rfl, rfl⟩ := hrel
      go_wp2
      go_ret
      exact ⟨.slice none 0 0, rfl, HB.out, by rw [HF.out]; exact World.ownsRow_nil _ _ _ _⟩
  · obtain ⟨a, rfl⟩ := Int.eq_ofNat_of_zero_le s0
    have ha : a < 64 := by omega
    have HF := Lib.hid (show rFromL P a = upList (attR P a) 64 by unfold rFromL; rw [hs, if_pos rfl, Int.toNat_natCast])
    clear hs
    go_wp2
    go_loopw [5, 6] (fun v i wr => ∃ j : Nat, j ≤ 64 ∧ i = .int .i64 (j : Int) ∧ Below W.heap.size W wr ∧ wr.ownsRow W.heap.size 3 1 v (upList (attR P a) j).length (ivals (upList (attR P a) j))) (fun _ i _ => 64 - (intOf i).toNat)
    case atStart => exact ⟨0, Nat.zero_le _, rfl, Below.refl _ _, World.ownsRow_nil _ _ _ _⟩
    case round =>
      obtain ⟨j, hj, rfl, hb, hown⟩ := hrel
      by_cases hlt : j < 64
      · have HPR := Lib.hid (HP.out.go hb)
        have hfl := upList_len (attR P a) j
        have hsx := upList_succ (attR P a) j
        obtain ⟨L, hL⟩ : ∃ L, upList (attR P a) j = L := ⟨_, rfl⟩
        rw [hL] at hown hfl hsx
        have HS := Lib.hid hsx
        have HOW := Lib.hid hown
        have HB1 := Lib.hid hb
        clear hL hsx hown hb
        have hj0 : (0 : Int) ≤ j := by omega
        have hj1 : (j : Int) < 64 := by omega
        go_wp2_with (refine wpList_pos (by rfl) _ (by rfl) w.heap.size P X HX.out (by rfl) HPR.out ?_)
        refine (HA.out a j ha hlt _).mono ?_
        rintro e w2 ⟨rfl, hb2⟩
        have HOD := Lib.hid (owns_go HOW.out hb2)
        have HBD := Lib.hid (HB1.out.trans (hb2.mono HB1.out.size))
        clear hb2 HOW HB1 HPR
        cases hq : attR P a j
        · have HS2 := Lib.hid (show upList (attR P a) (j + 1) = L by rw [HS.out, hq]; simp)
          clear hq HS
          go_wp2
          go_roundw
          case rel => exact ⟨j + 1, by omega, by go_num, HBD.out, by rw [HS2.out]; exact HOD.out⟩
          case measure => simp [intOf]; omega
        · have HS2 := Lib.hid (show upList (attR P a) (j + 1) = L ++ [(j : Int)] by rw [HS.out, hq]; simp)
          have hm1 : L.length + 1 ≤ maxLen := by unfold maxLen; omega
          clear hq HS
          go_wp2_with (at_builtin; refine wpList_append_lies _ rfl (.tmp 23) (.tmp 25) 30 rfl W.heap.size 3 i0 (.int .i64 0) 1 8 Tryd.underlying30 hi hz0 hz1 hz2 rfl (by decide) _ L.length (ivals L) rfl (owns_go HOD.out ((Below.refl _ _).alloc (Nat.le_refl _) _)) ⟨w2.heap.size, 0, none⟩ 1 1 [.int .i64 (j : Int)] rfl rfl (World.news_of_block (heap_alloc_new _ _)) ?c2 (by decide) hm1 (by omega) (by have h : W.heap.size ≤ w2.heap.size := HBD.out.size; simp; omega) (w2.heap.size + 1) (by simp) ?next)
          case c2 => intro y hy; simp at hy; subst hy; rfl
          case next =>
            intro g1 cap1 w4 hown1 hgrow1 hat1 hlt3
            rw [ivals_snoc] at hown1
            have HB4 := Lib.hid ((HBD.out.alloc HBD.out.size _).grown hgrow1 (by have h : W.heap.size ≤ w2.heap.size := HBD.out.size; simp; omega) (fun b e => (HOD.out.lt b e).1))
            have HO4 := Lib.hid hown1
            clear hgrow1 hown1 hat1 HBD HOD
            go_wp2
            go_roundw
            case rel => exact ⟨j + 1, by omega, by go_num, HB4.out, by rw [HS2.out, show (L ++ [(j : Int)]).length = L.length + 1 by simp]; exact HO4.out⟩
            case measure => simp [intOf]; omega
      · obtain rfl : j = 64 := by omega
        have HO := Lib.hid hown
        have HBK := Lib.hid hb
        clear hown hb
        rw [show ((64 : Nat) : Int) = 64 from rfl]
        go_wp2
        go_ret
        exact ⟨_, rfl, HB.out.trans (HBK.out.mono HB.out.size), by rw [HF.out]; exact owns_base HO.out HB.out.size⟩
set_option maxHeartbeats 4000000 in
set_option maxRecDepth 100000 in
theorem rTo_any (P : Nat → Int) (s d : Int) (w : World) :
    Calls Tryd.prog 13 #[.agg (pc P).toArray, .int .i64 s, .int .i64 d] w fun e w' => ∃ v, e = .returned v ∧ Below w.heap.size w w' ∧ w'.ownsRow w.heap.size 3 1 v (rToL P s d).length (ivals (rToL P s d)) := by
  obtain ⟨i0, hi, hz0, hz1, hz2⟩ := info_parts infoInt
  obtain ⟨X, hX⟩ : ∃ X, X = (pc P).toArray := ⟨_, rfl⟩
  have HA := Lib.hid (fun a b ha hb W => rAtt_any P a b ha hb W)
  rw [← hX] at HA ⊢
  have HX := Lib.hid hX
  have HP := Lib.hid (show PB (w.alloc (.cells X 29)) w.heap.size P by subst hX; exact PB.new rfl)
  have HB := Lib.hid (below_new (w := w) (.cells X 29))
  clear hX
  go_enter Tryd.func13, Tryd.ntmps13
  go_upto_region 1 with (fail)
  generalize w.alloc (.cells X 29) = W at *
  rcases sq_cases s with ⟨h1, hs⟩ | ⟨h1, hs⟩ | ⟨s0, s1, hs⟩
  · have HF := Lib.hid (show rToL P s d = [] by unfold rToL; rw [hs]; rfl)
    clear hs HA
    go_wp2
    go_loopw [7, 8] (fun v i wr => v = .slice none 0 0 ∧ i = .int .i64 0 ∧ wr = W) (fun _ i _ => 1)
    case atStart => exact ⟨rfl, rfl, rfl⟩
    case round =>
      obtain ⟨rfl, rfl, rfl⟩ := hrel
      go_wp2
      go_ret
      exact ⟨.slice none 0 0, rfl, HB.out, by rw [HF.out]; exact World.ownsRow_nil _ _ _ _⟩
  · have HF := Lib.hid (show rToL P s d = [] by unfold rToL; rw [hs]; rfl)
    have hs0 : 0 ≤ s := by omega
    clear hs HA
    go_wp2
    go_loopw [7, 8] (fun v i wr => v = .slice none 0 0 ∧ i = .int .i64 0 ∧ wr = W) (fun _ i _ => 1)
    case atStart => exact ⟨rfl, rfl, rfl⟩
    case round =>
      obtain ⟨rfl, rfl, rfl⟩ := hrel
      go_wp2
      go_ret
      exact ⟨.slice none 0 0, rfl, HB.out, by rw [HF.out]; exact World.ownsRow_nil _ _ _ _⟩
  · obtain ⟨a, rfl⟩ := Int.eq_ofNat_of_zero_le s0
    have ha : a < 64 := by omega
    obtain ⟨Q, hQ⟩ : ∃ Q : Nat → Bool, Q = fun x => P (2 * x + 1) == d && attR P x a := ⟨_, rfl⟩
    have HQ := Lib.hid (show ∀ x, Q x = (P (x * 2 + 1) == d && attR P x a) from fun x => by rw [hQ, Nat.mul_comm x 2])
    have HF := Lib.hid (show rToL P a d = upList Q 64 by unfold rToL; rw [hs, if_pos rfl, Int.toNat_natCast, hQ])
    clear hs hQ
    go_wp2
    go_loopw [7, 8] (fun v i wr => ∃ j : Nat, j ≤ 64 ∧ i = .int .i64 (j : Int) ∧ Below W.heap.size W wr ∧ wr.ownsRow W.heap.size 3 1 v (upList Q j).length (ivals (upList Q j))) (fun _ i _ => 64 - (intOf i).toNat)
    case atStart => exact ⟨0, Nat.zero_le _, rfl, Below.refl _ _, World.ownsRow_nil _ _ _ _⟩
    case round =>
      obtain ⟨j, hj, rfl, hb, hown⟩ := hrel
      by_cases hlt : j < 64
      · have HPR := Lib.hid (HP.out.go hb)
        have hfl := upList_len Q j
        have hsx := upList_succ Q j
        obtain ⟨L, hL⟩ : ∃ L, upList Q j = L := ⟨_, rfl⟩
        rw [hL] at hown hfl hsx
        have HS := Lib.hid hsx
        have HOW := Lib.hid hown
        have HB1 := Lib.hid hb
        clear hL hsx hown hb
        have hj0 : (0 : Int) ≤ j := by omega
        have hj1 : (j : Int) < 64 := by omega
        have e2 := HPR.out.cell (j * 2 + 1) (by omega)
        have HQJ := Lib.hid (HQ.out j)
        generalize P (j * 2 + 1) = pd at e2 HQJ
        cases hpd : (pd == d)
        · have HS2 := Lib.hid (show upList Q (j + 1) = L by rw [HS.out, HQJ.out, hpd]; simp)
          clear HS HPR
          go_wp2
          go_roundw
          case rel => exact ⟨j + 1, by omega, by go_num, HB1.out, by rw [HS2.out]; exact HOW.out⟩
          case measure => simp [intOf]; omega
        · go_wp2_with fail
          refine wp_load_mid 29 (.tmp 3) rfl _ 0 rfl (pc P) _ HPR.out.range Tryd.underlying29 rfl (by rw [infoPos, pc_len]) ?_
          rw [← HX.out]
          go_wp2_with fail
          refine (HA.out j a hlt ha _).mono ?_
          rintro e w2 ⟨rfl, hb2⟩
          have HOD := Lib.hid (owns_go HOW.out hb2)
          have HBD := Lib.hid (HB1.out.trans (hb2.mono HB1.out.size))
          clear hb2 HOW HB1 HPR e2
          cases hq : attR P j a
          · have HS2 := Lib.hid (show upList Q (j + 1) = L by rw [HS.out, HQJ.out, hpd, hq]; simp)
            clear hq HS hpd HQJ
            go_wp2
            go_roundw
            case rel => exact ⟨j + 1, by omega, by go_num, HBD.out, by rw [HS2.out]; exact HOD.out⟩
            case measure => simp [intOf]; omega
          · have HS2 := Lib.hid (show upList Q (j + 1) = L ++ [(j : Int)] by rw [HS.out, HQJ.out, hpd, hq]; simp)
            have hm1 : L.length + 1 ≤ maxLen := by unfold maxLen; omega
            clear hq HS hpd HQJ
            go_wp2_with (at_builtin; refine wpList_append_lies _ rfl (.tmp 34) (.tmp 36) 30 rfl W.heap.size 3 i0 (.int .i64 0) 1 8 Tryd.underlying30 hi hz0 hz1 hz2 rfl (by decide) _ L.length (ivals L) rfl (owns_go HOD.out ((Below.refl _ _).alloc (Nat.le_refl _) _)) ⟨w2.heap.size, 0, none⟩ 1 1 [.int .i64 (j : Int)] rfl rfl (World.news_of_block (heap_alloc_new _ _)) ?c2 (by decide) hm1 (by omega) (by have h : W.heap.size ≤ w2.heap.size := HBD.out.size; simp; omega) (w2.heap.size + 1) (by simp) ?next)
            case c2 => intro y hy; simp at hy; subst hy; rfl
            case next =>
              intro g1 cap1 w4 hown1 hgrow1 hat1 hlt3
              rw [ivals_snoc] at hown1
              have HB4 := Lib.hid ((HBD.out.alloc HBD.out.size _).grown hgrow1 (by have h : W.heap.size ≤ w2.heap.size := HBD.out.size; simp; omega) (fun b e => (HOD.out.lt b e).1))
              have HO4 := Lib.hid hown1
              clear hgrow1 hown1 hat1 HBD HOD
              go_wp2
              go_roundw
              case rel => exact ⟨j + 1, by omega, by go_num, HB4.out, by rw [HS2.out, show (L ++ [(j : Int)]).length = L.length + 1 by simp]; exact HO4.out⟩
              case measure => simp [intOf]; omega
      · obtain rfl : j = 64 := by omega
        have HO := Lib.hid hown
        have HBK := Lib.hid hb
        clear hown hb
        rw [show ((64 : Nat) : Int) = 64 from rfl]
        go_wp2
        go_ret
        exact ⟨_, rfl, HB.out.trans (HBK.out.mono HB.out.size), by rw [HF.out]; exact owns_base HO.out HB.out.size⟩
end Go.Proofs.YtbnpphecknhpeaaDoor
