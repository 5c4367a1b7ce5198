/-
  Merged: Mx, Nc, Ms.
-/
import Derived.Test.YthinkiljhkanhaaGreatDoorG19
import Derived.Test.YthinkiljhkanhaaGreatDoorG9
import Derived.Test.YthinkiljhkanhaaGreatDoorG4
import Derived.Test.YthinkiljhkanhaaGreatDoorG18
import Derived.Test.YthinkiljhkanhaaGreatDoorG17

namespace Go.Proofs.YthinkiljhkanhaaGreatDoor
open Go.RowKit Go.Sort
set_option linter.unusedSimpArgs false
set_option linter.unusedVariables false
set_option maxRecDepth 20000

theorem infoMv9 : ∃ i, Tryz.prog.info? 41 = some i ∧ (i.zero, i.size, i.bytes) = (some (.agg #[.int .i64 0, .int .i64 0, .int .i64 0]), 3, 24) := by
  have h : (Tryz.prog.info? 41).map (fun i => (i.zero, i.size, i.bytes)) = some (some (.agg #[.int .i64 0, .int .i64 0, .int .i64 0]), 3, 24) := by kernel_rfl
  exact Option.map_eq_some_iff.1 h
theorem mvals_nil : mvals [] = [] := rfl
set_option maxHeartbeats 8000000 in
set_option maxRecDepth 100000 in
theorem rFrom9_any (P : Nat → Int) (s : Int) (w : World) :
    Calls Tryz.prog 86 #[.agg (pc P).toArray, .int .i64 s] w fun e w' => ∃ v, e = .returned v ∧ Below w.heap.size w w' ∧ w'.ownsRow w.heap.size 41 3 v (fromM P s).length (mvals (fromM P s)) := by
  obtain ⟨i1, hi1, hk⟩ := infoMv9
  simp only [Prod.mk.injEq] at hk
  obtain ⟨hk0, hk1, hk2⟩ := hk
  obtain ⟨X, hX⟩ : ∃ X, X = (pc P).toArray := ⟨_, rfl⟩
  have HA := Lib.hid (fun a b ha hb W => rGoes_any P a b ha hb W)
  rw [← hX] at HA ⊢
  have HX := Lib.hid hX
  have HP := Lib.hid (show PB (w.alloc (.cells X 29)) w.heap.size P by subst hX; exact PB.new rfl)
  have HB := Lib.hid (below_new (w := w) (.cells X 29))
  clear hX
  go_enter Tryz.func86, Tryz.ntmps86
  go_upto_region 1 with (fail)
  generalize w.alloc (.cells X 29) = W at *
  rcases sq_cases s with ⟨h1, hs⟩ | ⟨h1, hs⟩ | ⟨s0, s1, hs⟩
  · have HF := Lib.hid (show fromM P s = [] by unfold fromM; rw [hs]; rfl)
    clear hs HA
    go_wp2
    go_loopw [5, 6] (fun v i wr => v = .slice none 0 0 ∧ i = .int .i64 0 ∧ wr = W) (fun _ i _ => 1)
    case atStart => exact ⟨rfl, rfl, rfl⟩
    case round =>
      obtain ⟨rfl, rfl, rfl⟩ := hrel
      go_wp2
      go_ret
      exact ⟨.slice none 0 0, rfl, HB.out, by rw [HF.out]; exact World.ownsRow_nil _ _ _ _⟩
  · have HF := Lib.hid (show fromM P s = [] by unfold fromM; rw [hs]; rfl)
    have hs0 : 0 ≤ s := by omega
    clear hs HA
    go_wp2
    go_loopw [5, 6] (fun v i wr => v = .slice none 0 0 ∧ i = .int .i64 0 ∧ wr = W) (fun _ i _ => 1)
    case atStart => exact ⟨rfl, rfl, rfl⟩
    case round =>
      obtain ⟨rfl, rfl, rfl⟩ := hrel
      go_wp2
      go_ret
      exact ⟨.slice none 0 0, rfl, HB.out, by rw [HF.out]; exact World.ownsRow_nil _ _ _ _⟩
  · obtain ⟨a, rfl⟩ := Int.eq_ofNat_of_zero_le s0
    have ha : a < 64 := by omega
    have HF := Lib.hid (show fromM P (a : Int) = refM P a 64 from (refM_end P a ha).symm)
    clear hs
    go_wp2
    go_loopw [5, 6] (fun v i wr => ∃ j : Nat, j ≤ 64 ∧ i = .int .i64 (j : Int) ∧ Below W.heap.size W wr ∧ wr.ownsRow W.heap.size 41 3 v (refM P a j).length (mvals (refM P a j))) (fun _ i _ => 64 - (intOf i).toNat)
    case atStart => exact ⟨0, Nat.zero_le _, rfl, Below.refl _ _, by rw [show refM P a 0 = [] by unfold refM; split <;> rfl]; exact World.ownsRow_nil _ _ _ _⟩
    case round =>
      obtain ⟨j, hj, rfl, hb, hown⟩ := hrel
      by_cases hlt : j < 64
      · have HPR := Lib.hid (HP.out.go hb)
        have hfl := refM_len P a j (by omega)
        have hsx := refM_succ P a j ha hlt
        have hlb := oneM_is P a j ha hlt
        obtain ⟨L, hL⟩ : ∃ L, refM P a j = L := ⟨_, rfl⟩
        rw [hL] at hown hfl hsx
        obtain ⟨gv, hgv⟩ : ∃ b, goesR P a j = b := ⟨_, rfl⟩
        have HG := Lib.hid (HA.out a j ha hlt)
        rw [hgv] at hsx hlb HG
        have HS := Lib.hid hsx
        have HLB := Lib.hid hlb
        have HOW := Lib.hid hown
        have HB1 := Lib.hid hb
        clear hL hsx hown hb hgv hlb
        have hj0 : (0 : Int) ≤ j := by omega
        have hj1 : (j : Int) < 64 := by omega
        go_wp2_with (refine wpList_pos (by rfl) _ (by rfl) w.heap.size P X HX.out (by rfl) HPR.out ?_)
        refine (HG.out _).mono ?_
        rintro e w2 ⟨rfl, hb2⟩
        have HOD := Lib.hid (owns_go HOW.out hb2)
        have HBD := Lib.hid (HB1.out.trans (hb2.mono HB1.out.size))
        have HPD := Lib.hid (HPR.out.go hb2)
        clear hb2 HOW HB1 HPR HG
        cases gv
        · have HS2 := Lib.hid (show refM P a (j + 1) = L by rw [HS.out]; simp)
          clear HS HLB
          go_wp2
          go_roundw
          case rel => exact ⟨j + 1, by omega, by go_num, HBD.out, by rw [HS2.out]; exact HOD.out⟩
          case measure => simp [intOf]; omega
        · have HS2 := Lib.hid (show refM P a (j + 1) = L ++ oneM P a j by rw [HS.out]; simp)
          replace HLB := Lib.hid (HLB.out rfl)
          have HON := Lib.hid (oneM_kinds P a (j : Int))
          rw [Int.toNat_natCast] at HON
          obtain ⟨lb, hlb⟩ : ∃ b, lastB P a j = b := ⟨_, rfl⟩
          rw [hlb] at HLB HON
          rw [Nat.mul_comm 2 a] at HLB
          obtain ⟨r, hr⟩ : ∃ r : Nat, j / 8 = r := ⟨_, rfl⟩
          rw [hr] at HLB
          have td : (j : Int).tdiv 8 = (r : Int) := by rw [Int.tdiv_eq_ediv_of_nonneg (by omega)]; omega
          have td2 : (j : Int) / 8 = (r : Int) := by omega
          have tw : wrap64 (r : Int) = (r : Int) := by unfold wrap64; omega
          have e1 := HPD.out.cell (a * 2) (by omega)
          have e2 := HPD.out.cell (a * 2 + 1) (by omega)
          obtain ⟨kk, hkk⟩ : ∃ x, P (a * 2) = x := ⟨_, rfl⟩
          obtain ⟨dd, hdd⟩ : ∃ x, P (a * 2 + 1) = x := ⟨_, rfl⟩
          rw [hkk] at e1 HLB
          rw [hdd] at e2 HLB
          clear hlb hr hkk hdd HS
          go_upto_region 7 with (fail)
          have HBE := Lib.hid (HBD.out.trans ((below_new (w := w2) (.cells #[.int .i64 kk, .int .i64 dd] 25)).mono HBD.out.size))
          have HOE := Lib.hid (owns_go HOD.out (below_new (w := w2) (.cells #[.int .i64 kk, .int .i64 dd] 25)))
          have HXE := Lib.hid (show (w2.alloc (.cells #[.int .i64 kk, .int .i64 dd] 25)).heap[w2.heap.size]? = some (.cells #[.int .i64 kk, .int .i64 dd] 25 (0, 0)) from sl_at rfl)
          generalize w2.alloc (.cells #[.int .i64 kk, .int .i64 dd] 25) = W3 at *
          generalize w2.heap.size = xb at *
          clear e1 e2 HBD HOD HPD
          go_cut [52] from 30 to 52 (fun v wx => v = .bool lb ∧ W3 = wx)
          case first =>
            obtain ⟨x1, x2, _, _⟩ := row2 HXE.out
            by_cases hk : kk = 1
            case neg =>
              have hk2 : (kk == 1) = false := by simp [hk]
              rw [hk2] at HLB
              clear hk
              go_wp2_with fail
              go_meet
              exact ⟨by rw [HLB.out]; rfl, rfl⟩
            subst hk
            by_cases hd : dd = 0
            · subst hd
              by_cases h7 : r = 7
              · subst h7
                go_wp2_with fail
                go_meet
                exact ⟨by rw [HLB.out]; rfl, rfl⟩
              · have h7b : ((r : Int) == 7) = false := by simp; omega
                have h7c : (r == 7) = false := by simp; omega
                rw [h7c] at HLB
                clear h7
                go_wp2_with fail
                go_meet
                exact ⟨by rw [HLB.out]; rfl, rfl⟩
            · have hd2 : (dd == 0) = false := by simp [hd]
              rw [hd2] at HLB
              by_cases h1 : dd = 1
              · subst h1
                have h0 : ((r : Int) == 0) = (r == 0) := by rw [Bool.eq_iff_iff]; first | (simp; done) | (simp; omega)
                clear hd
                go_wp2_with fail
                go_meet
                exact ⟨by rw [HLB.out]; try simp [h0], rfl⟩
              · have h1b : (dd == 1) = false := by simp [h1]
                rw [h1b] at HLB
                clear hd h1
                go_wp2_with fail
                go_meet
                exact ⟨by rw [HLB.out]; rfl, rfl⟩
          case rest =>
          obtain ⟨rfl, rfl⟩ := hcut
          clear HLB HXE
          cases lb
          · have HS3 := Lib.hid (show refM P a (j + 1) = L ++ [((a : Int), (j : Int), 0)] by rw [HS2.out, HON.out]; rfl)
            have hm1 : L.length + 1 ≤ maxLen := by unfold maxLen; omega
            clear HS2 HON
            go_wp2_with (at_builtin; refine wpList_append_lies _ rfl (.tmp 64) (.tmp 68) 30 rfl W.heap.size 41 i1 (.agg #[.int .i64 0, .int .i64 0, .int .i64 0]) 3 24 Tryz.underlying30 hi1 hk0 hk1 hk2 rfl (by decide) _ L.length (mvals L) rfl (owns_go HOE.out ((Below.refl _ _).alloc (Nat.le_refl _) _)) ⟨W3.heap.size, 0, none⟩ 1 1 [.int .i64 (a : Int), .int .i64 (j : Int), .int .i64 0] rfl rfl (World.news_of_block (heap_alloc_new _ _)) ?c2 (by decide) hm1 (by omega) (by have h : W.heap.size ≤ W3.heap.size := HBE.out.size; simp; omega) (W3.heap.size + 1) (by simp) ?next)
            case c2 => intro y hy; simp at hy; rcases hy with rfl | rfl | rfl <;> rfl
            case next =>
              intro g1 cap1 w4 hown1 hgrow1 hat1 hlt3
              rw [mvals_snoc] at hown1
              have HB4 := Lib.hid ((HBE.out.alloc HBE.out.size _).grown hgrow1 (by have h : W.heap.size ≤ W3.heap.size := HBE.out.size; simp; omega) (fun b e => (HOE.out.lt b e).1))
              have HO4 := Lib.hid hown1
              clear hgrow1 hown1 hat1 HBE HOE
              go_wp2
              go_roundw
              case rel => exact ⟨j + 1, by omega, by go_num, HB4.out, by rw [HS3.out, List.length_append]; exact HO4.out⟩
              case measure => simp [intOf]; omega
          · have HS3 := Lib.hid (show refM P a (j + 1) = L ++ kindsM a (j : Int) 2 4 by rw [HS2.out, HON.out]; rfl)
            clear HS2 HON
            go_wp2
            go_loopw [5, 8] (fun ts kv wr => ∃ (m : Nat) (v : Value), m ≤ 4 ∧ kv = .int .i64 (2 + (m : Int)) ∧ ts = v ∧ Below W.heap.size W wr ∧ wr.ownsRow W.heap.size 41 3 v (L ++ kindsM a (j : Int) 2 m).length (mvals (L ++ kindsM a (j : Int) 2 m))) (fun _ kv _ => 10 - (intOf kv).toNat)
            case atStart => exact ⟨0, _, Nat.zero_le _, rfl, rfl, HBE.out, by rw [show kindsM a (j : Int) 2 0 = [] from rfl, List.append_nil]; exact HOE.out⟩
            case round =>
              clear HBE HOE
              obtain ⟨m, v, hm, rfl, rfl, hb, hown⟩ := hrel
              have HBE := Lib.hid hb
              clear hb
              by_cases hmk : m < 4
              · have hsn := kindsM_succ a (j : Int) 2 m
                have hkl : (kindsM a (j : Int) 2 m).length = m := by unfold kindsM; simp
                obtain ⟨K, hK⟩ : ∃ K, L ++ kindsM a (j : Int) 2 m = K := ⟨_, rfl⟩
                obtain ⟨km, hkm⟩ : ∃ x : Int, 2 + (m : Int) = x := ⟨_, rfl⟩
                have HKS := Lib.hid (show L ++ kindsM a (j : Int) 2 (m + 1) = K ++ [((a : Int), (j : Int), km)] by rw [hsn, ← List.append_assoc, hK, hkm])
                have hkl2 : K.length ≤ 300 := by rw [← hK, List.length_append, hkl]; omega
                rw [hK] at hown
                have HOW := Lib.hid hown
                have hkm1 : 2 + ((m + 1 : Nat) : Int) = km + 1 := by omega
                have hkm2 : 2 ≤ km ∧ km ≤ 5 := by omega
                have hz : km ≤ 5 := by omega
                have hkm3 : wrap64 (km + 1) = km + 1 := by have := hkm2; unfold wrap64; omega
                rw [hkm]
                have HK1 := Lib.hid hkm1
                have HK2 := Lib.hid hkm2
                clear hown hK hsn hkl hkm hkm1 hkm2
                have hm1 : K.length + 1 ≤ maxLen := by unfold maxLen; omega
                go_wp2_with (at_builtin; refine wpList_append_lies _ rfl (.tmp 57) (.tmp 62) 30 rfl W.heap.size 41 i1 (.agg #[.int .i64 0, .int .i64 0, .int .i64 0]) 3 24 Tryz.underlying30 hi1 hk0 hk1 hk2 rfl (by decide) _ K.length (mvals K) rfl (owns_go HOW.out ((Below.refl _ _).alloc (Nat.le_refl _) _)) ⟨wr.heap.size, 0, none⟩ 1 1 [.int .i64 (a : Int), .int .i64 (j : Int), .int .i64 km] rfl rfl (World.news_of_block (heap_alloc_new _ _)) ?c2 (by decide) hm1 (by omega) (by have h : W.heap.size ≤ wr.heap.size := HBE.out.size; simp; omega) (wr.heap.size + 1) (by simp) ?next)
                case c2 => intro y hy; simp at hy; rcases hy with rfl | rfl | rfl <;> rfl
                case next =>
                  intro g1 cap1 w4 hown1 hgrow1 hat1 hlt3
                  rw [mvals_snoc] at hown1
                  have HB4 := Lib.hid ((HBE.out.alloc HBE.out.size _).grown hgrow1 (by have h : W.heap.size ≤ wr.heap.size := HBE.out.size; simp; omega) (fun b e => (HOW.out.lt b e).1))
                  have HO4 := Lib.hid hown1
                  clear hgrow1 hown1 hat1 HBE HOW
                  go_wp2
                  go_roundw
                  case rel => exact ⟨m + 1, _, by omega, by rw [HK1.out]; first | rfl | rw [hkm3], rfl, HB4.out, by rw [HKS.out, List.length_append]; exact HO4.out⟩
                  case measure => have := HK2.out; simp [intOf]; omega
              · obtain rfl : m = 4 := by omega
                have HOW := Lib.hid hown
                clear hown
                rw [show (2 : Int) + ((4 : Nat) : Int) = 6 from rfl]
                go_wp2
                go_roundw
                case rel => exact ⟨j + 1, by omega, by go_num, HBE.out, by rw [HS3.out]; exact HOW.out⟩
                case measure => simp [intOf]; omega
      · obtain rfl : j = 64 := by omega
        have HO := Lib.hid hown
        have HBK := Lib.hid hb
        clear hown hb
        rw [show ((64 : Nat) : Int) = 64 from rfl]
        go_wp2
        go_ret
        exact ⟨_, rfl, HB.out.trans (HBK.out.mono HB.out.size), by rw [HF.out]; exact owns_base HO.out HB.out.size⟩
set_option maxHeartbeats 8000000 in
set_option maxRecDepth 100000 in
theorem rAll9_any (P : Nat → Int) (w : World) :
    Calls Tryz.prog 51 #[.agg (pc P).toArray] w fun e w' => ∃ v, e = .returned v ∧ Below w.heap.size w w' ∧ w'.ownsRow w.heap.size 41 3 v (allM P).length (mvals (allM P)) := by
  obtain ⟨i1, hi1, hk⟩ := infoMv9
  simp only [Prod.mk.injEq] at hk
  obtain ⟨hk0, hk1, hk2⟩ := hk
  obtain ⟨X, hX⟩ : ∃ X, X = (pc P).toArray := ⟨_, rfl⟩
  have HA := Lib.hid (fun (s : Nat) W => rFrom9_any P (s : Int) W)
  rw [← hX] at HA ⊢
  have HX := Lib.hid hX
  have HP := Lib.hid (show PB (w.alloc (.cells X 29)) w.heap.size P by subst hX; exact PB.new rfl)
  have HB := Lib.hid (below_new (w := w) (.cells X 29))
  clear hX
  go_enter Tryz.func51, Tryz.ntmps51
  go_upto_region 1 with (fail)
  generalize w.alloc (.cells X 29) = W at *
  go_wp2
  go_loopw [3, 4] (fun v i wr => ∃ j : Nat, j ≤ 64 ∧ i = .int .i64 (j : Int) ∧ Below W.heap.size W wr ∧ wr.ownsRow W.heap.size 41 3 v (flatM P (upList (ownB P) j)).length (mvals (flatM P (upList (ownB P) j)))) (fun _ i _ => 64 - (intOf i).toNat)
  case atStart => exact ⟨0, Nat.zero_le _, rfl, Below.refl _ _, World.ownsRow_nil _ _ _ _⟩
  case round =>
    obtain ⟨j, hj, rfl, hb, hown⟩ := hrel
    by_cases hlt : j < 64
    · have HPR := Lib.hid (HP.out.go hb)
      have hfl := flatM_len P (upList (ownB P) j)
      have hul := upList_len (ownB P) j
      have hsx := flatM_up P j hlt
      have hml : (fromM P (j : Int)).length ≤ 280 := by
        unfold fromM
        split
        · exact movesL_len P _
        · simp
      obtain ⟨L, hL⟩ : ∃ L, flatM P (upList (ownB P) j) = L := ⟨_, rfl⟩
      obtain ⟨M, hM⟩ : ∃ M, fromM P (j : Int) = M := ⟨_, rfl⟩
      have HG := Lib.hid (HA.out j)
      rw [hL] at hown hfl hsx
      rw [hM] at hsx HG hml
      have hfl2 : L.length ≤ 17920 := by omega
      have HS := Lib.hid hsx
      have HOW := Lib.hid hown
      have HB1 := Lib.hid hb
      clear hL hM hsx hown hb hfl hul
      go_wp2_with (refine wpList_pos (by rfl) _ (by rfl) w.heap.size P X HX.out (by rfl) HPR.out ?_)
      refine (HG.out _).mono ?_
      rintro e w2 ⟨v2, rfl, hb2, hown2⟩
      have HOD := Lib.hid (owns_go HOW.out hb2)
      have HBD := Lib.hid (HB1.out.trans (hb2.mono HB1.out.size))
      have HO2 := Lib.hid hown2
      clear hb2 HOW HB1 HPR HG hown2
      go_wp2_with (at_builtin; refine wpList_append_rows rfl (.tmp 9) (.tmp 12) 30 rfl W.heap.size wr.heap.size 41 i1 (.agg #[.int .i64 0, .int .i64 0, .int .i64 0]) 3 24 Tryz.underlying30 hi1 hk0 hk1 hk2 rfl (by decide) _ L.length (mvals L) rfl HOD.out v2 M.length (mvals M) rfl HO2.out (mvals_one _) (by unfold maxLen; omega) (by omega) HBD.out.size ?_)
      intro v3 w3 hown hgr
      have HB4 := Lib.hid (HBD.out.grown hgr HBD.out.size (fun k e => (HOD.out.lt k e).1))
      rw [mvals_app] at hown
      have HO3 := Lib.hid hown
      clear hown hgr
      go_wp2
      go_roundw
      case rel => exact ⟨j + 1, by omega, by go_num, HB4.out, by rw [HS.out, List.length_append]; exact HO3.out⟩
      case measure => simp [intOf]; omega
    · obtain rfl : j = 64 := by omega
      have HO := Lib.hid hown
      have HBK := Lib.hid hb
      have HAL := Lib.hid (show flatM P (upList (ownB P) 64) = allM P from rfl)
      clear hown hb
      rw [show ((64 : Nat) : Int) = 64 from rfl]
      go_wp2
      go_ret
      exact ⟨_, rfl, HB.out.trans (HBK.out.mono HB.out.size), by rw [← HAL.out]; exact owns_base HO.out HB.out.size⟩
end Go.Proofs.YthinkiljhkanhaaGreatDoor

namespace Go.Proofs.YthinkiljhkanhaaGreatDoor
open Go.RowKit Go.Sort
set_option linter.unusedSimpArgs false
set_option linter.unusedVariables false
set_option maxRecDepth 20000

theorem may_t (k d : Int) : mayB k (tSide k d) = mayB k d := by
  unfold tSide
  cases h : mayB k d
  · simp [h]
  · simp only [if_true]
    unfold mayB at h ⊢
    simp only [Bool.and_eq_true] at h
    rw [oth_side7, h.1.1, h.1.2]; rfl
theorem occ_t (P : Nat → Int) (s : Nat) (hs : s < 64) : occS (turnN P) (mir s) = occS P s := by
  have hm := mir_lt s hs
  unfold occS
  rw [turnN_k P _ hm, turnN_d P _ hm, mir_mir s hs]
  congr 1
  unfold tSide
  cases h : mayB (P (2 * s)) (P (2 * s + 1))
  · simp
  · have hk : (P (2 * s) == 0) = false := by
      unfold mayB at h
      simp only [Bool.and_eq_true, decide_eq_true_eq] at h
      simp; omega
    unfold pe
    rw [hk]; rfl
theorem fD_t (a b : Nat) : fD (mir a) (mir b) = fD a b := by unfold fD mir; omega
theorem rD_t (a b : Nat) (ha : a < 64) (hb : b < 64) : rD (mir a) (mir b) = - rD a b := by unfold rD mir; omega
def betT (a b : Nat) : Bool := !good a b || (between (mir a) (mir b) == (between a b).map mir)
theorem betT_ok : ∀ a, a < 64 → ∀ b, b < 64 → betT a b = true := by decide +kernel
theorem bet_lt (a b : Nat) (ha : a < 64) (hb : b < 64) (hg : good a b = true) : ∀ s ∈ between a b, s < 64 := by
  intro s hs
  obtain ⟨i, hi, rfl⟩ := List.mem_map.1 hs
  have := (between_ok a ha b hb hg).1 i (List.mem_range.1 hi)
  omega
theorem open_t (P : Nat → Int) (a b : Nat) (ha : a < 64) (hb : b < 64) (hg : good a b = true) : openB (turnN P) (mir a) (mir b) = openB P a b := by
  have h := betT_ok a ha b hb
  unfold betT at h
  rw [hg] at h
  simp only [Bool.not_true, Bool.false_or, beq_iff_eq] at h
  unfold openB
  rw [h, List.all_map, Bool.eq_iff_iff, List.all_eq_true, List.all_eq_true]
  constructor
  · intro H s hs
    have := H s hs
    simp only [Function.comp] at this
    rwa [occ_t P s (bet_lt a b ha hb hg s hs)] at this
  · intro H s hs
    simp only [Function.comp]
    rw [occ_t P s (bet_lt a b ha hb hg s hs)]
    exact H s hs
theorem absI_neg (n : Int) : absI (-n) = absI n := by unfold absI; split <;> split <;> omega
theorem neg_beq (n m : Int) : (-n == m) = (n == -m) := by rw [Bool.eq_iff_iff, beq_iff_eq, beq_iff_eq]; omega
theorem mir_beq (a b : Nat) (ha : a < 64) (hb : b < 64) : (mir a == mir b) = (a == b) := by
  rw [Bool.eq_iff_iff, beq_iff_eq, beq_iff_eq]
  unfold mir; omega
/-- turned, a piece attacks the squares across -/
theorem att_turn (P : Nat → Int) (a b : Nat) (ha : a < 64) (hb : b < 64) : attR (turnN P) (mir a) (mir b) = attR P a b := by
  have hm := mir_lt a ha
  unfold attR
  rw [turnN_k P _ hm, turnN_d P _ hm, mir_mir a ha]
  generalize P (2 * a) = k
  generalize P (2 * a + 1) = d
  unfold attK
  rw [may_t, mir_beq a b ha hb]
  cases hmay : mayB k d
  · rfl
  cases hab : a == b
  · have hg : ∀ x y : Bool, x = y → (good a b = true → x = y) := fun _ _ h _ => h
    have ht : tSide k d = oth d := by unfold tSide; rw [if_pos hmay]
    have hd : d = 0 ∨ d = 1 := by
      unfold mayB sideB at hmay
      simp only [Bool.and_eq_true, Bool.or_eq_true, beq_iff_eq] at hmay
      exact hmay.2
    have hgood : good a b = (fD a b == 0 || rD a b == 0 || absI (fD a b) == absI (rD a b)) := by unfold good; rw [hab]; rfl
    have hop : ∀ c : Bool, (c = true → good a b = true) → (c && openB (turnN P) (mir a) (mir b)) = (c && openB P a b) := by
      intro c hc
      cases c
      · rfl
      · rw [open_t P a b ha hb (hc rfl)]
    simp only [Bool.not_false, Bool.true_and]
    unfold kindB
    rw [fD_t, rD_t a b ha hb, ht, absI_neg]
    by_cases h1 : k = 1
    · rw [if_pos h1, if_pos h1]
      congr 1
      rw [neg_beq, neg_beq]
      rcases hd with rfl | rfl
      · simp [oth]
      · simp [oth]
    rw [if_neg h1, if_neg h1]
    by_cases h2 : k = 2
    · rw [if_pos h2, if_pos h2]
    rw [if_neg h2, if_neg h2]
    by_cases h6 : k = 6
    · rw [if_pos h6, if_pos h6]
    rw [if_neg h6, if_neg h6]
    have h0 : (-rD a b == 0) = (rD a b == 0) := by rw [neg_beq]; rfl
    rw [h0]
    by_cases h4 : k = 4
    · rw [if_pos h4, if_pos h4]
      exact hop _ fun hc => by rw [hgood]; simp only [Bool.or_eq_true] at hc ⊢; exact .inl hc
    rw [if_neg h4, if_neg h4]
    by_cases h3 : k = 3
    · rw [if_pos h3, if_pos h3]
      exact hop _ fun hc => by rw [hgood, hc, Bool.or_true]
    rw [if_neg h3, if_neg h3]
    exact hop _ fun hc => by rw [hgood]; exact hc
  · rfl
end Go.Proofs.YthinkiljhkanhaaGreatDoor

namespace Go.Proofs.YthinkiljhkanhaaGreatDoor
open Go.RowKit Go.Sort
set_option linter.unusedSimpArgs false
set_option linter.unusedVariables false
set_option maxRecDepth 20000

theorem allM_iff (P : Nat → Int) (m : Int × Int × Int) : m ∈ allM P ↔ ∃ s n, MvOk P m s n := by
  refine ⟨allM_mem P m, ?_⟩
  rintro ⟨s, n, h⟩
  rw [allM_up]
  refine List.mem_flatMap.2 ⟨(s : Int), (upList_mem _ _ _).2 ⟨s, h.hs, h.o, rfl⟩, ?_⟩
  rw [Int.toNat_natCast]
  unfold putL
  refine List.mem_flatMap.2 ⟨(n : Int), (upList_mem _ _ _).2 ⟨n, h.hn, h.g, rfl⟩, ?_⟩
  obtain ⟨f, t, k⟩ := m
  have h1 : f = (s : Int) := h.f
  have h2 : t = (n : Int) := h.t
  have h3 : becB P s n k = true := h.b
  subst h1; subst h2
  unfold oneM
  rw [Int.toNat_natCast]
  unfold becB at h3
  unfold lastB
  split at h3
  · rename_i hl
    rw [if_pos hl]
    simp only [Bool.and_eq_true, decide_eq_true_eq] at h3
    rcases (show k = 2 ∨ k = 3 ∨ k = 4 ∨ k = 5 by omega) with rfl | rfl | rfl | rfl <;> simp
  · rename_i hl
    rw [if_neg hl]
    have : k = 0 := by simpa using h3
    subst this
    simp
theorem allM_nodup (P : Nat → Int) : (allM P).Nodup := (allM_rise P).imp fun {a b} h e => by
  subst e
  unfold lessM at h
  have := lessV_not _ _ _ _ _ _ h
  rw [h] at this
  cases this
/-- the square across, of any number -/
def mI (x : Int) : Int := 8 * (7 - x / 8) + x % 8
theorem mI_nat (s : Nat) (hs : s < 64) : mI (s : Int) = (mir s : Int) := by unfold mI mir; omega
theorem mI_add (x : Int) (d : Int) : mI (x + 8 * d) = mI x - 8 * d := by unfold mI; omega
theorem mI_sq (x : Int) : sq (mI x) = sq x := by
  rw [Bool.eq_iff_iff, sq_iff, sq_iff]; unfold mI; omega
theorem bareR_turn (P : Nat → Int) (h : Fit P) (x : Int) : bareR (turnN P) (mI x) = bareR P x := by
  unfold bareR
  rw [mI_sq]
  cases hx : sq x
  · rfl
  · obtain ⟨h0, h1⟩ := (sq_iff x).1 hx
    obtain ⟨n, rfl⟩ := Int.eq_ofNat_of_zero_le h0
    rw [mI_nat n (by omega), Int.toNat_natCast, Int.toNat_natCast, emB_turn P h n (by omega)]
theorem onN_turn (P : Nat → Int) (hd : P 128 = 0 ∨ P 128 = 1) : onN (turnN P) = - onN P := by
  unfold onN
  rw [(turnN_parts P).1]
  rcases hd with e | e <;> rw [e] <;> rfl
theorem ahead_turn (P : Nat → Int) (h : Fit P) (hd : P 128 = 0 ∨ P 128 = 1) (s t : Nat) (hs : s < 64) (ht : t < 64) : (aheadL (turnN P) (mir s)).contains ((mir t : Nat) : Int) = (aheadL P s).contains (t : Int) := by
  rw [aheadL_is _ _ _ (mir_lt s hs), aheadL_is _ _ _ hs, onN_turn P hd, rkN_turn P hd s hs]
  have e8 : ((mir s : Nat) : Int) + 8 * -onN P = mI (s + 8 * onN P) := by rw [mI_add, mI_nat s hs]; omega
  have e16 : ((mir s : Nat) : Int) + 16 * -onN P = mI (s + 16 * onN P) := by rw [show (s : Int) + 16 * onN P = s + 8 * (2 * onN P) by omega, mI_add, mI_nat s hs]; omega
  rw [e8, e16, bareR_turn P h, bareR_turn P h]
  have q : ∀ x : Int, (((mir t : Nat) : Int) == mI x) = ((t : Int) == x) := fun x => by
    rw [Bool.eq_iff_iff, beq_iff_eq, beq_iff_eq, ← mI_nat t ht]; unfold mI; omega
  rw [q, q]
theorem moth_turn (P : Nat → Int) (h : Fit P) (hd : P 128 = 0 ∨ P 128 = 1) (t : Nat) (ht : t < 64) : mothB (turnN P) (mir t) = mothB P t := by
  unfold mothB
  rw [emB_turn P h t ht, turnN_d P _ (mir_lt t ht), mir_mir t ht, (turnN_parts P).1]
  cases he : emB P t
  · rw [Bool.not_false, Bool.true_and, Bool.true_and]
    rcases tSide_cases _ _ (h t ht) with ⟨e1, e2, _, _⟩ | ⟨_, _, e3, e4, _⟩
    · unfold emB at he; rw [e1, e2] at he; cases he
    · rw [e4]
      rcases hd with a | a <;> rcases e3 with b | b <;> rw [a, b] <;> rfl
  · rfl
theorem mown_turn (P : Nat → Int) (h : Fit P) (hd : P 128 = 0 ∨ P 128 = 1) (t : Nat) (ht : t < 64) : mownB (turnN P) (mir t) = mownB P t := by
  unfold mownB
  rw [emB_turn P h t ht, turnN_d P _ (mir_lt t ht), mir_mir t ht, (turnN_parts P).1]
  cases he : emB P t
  · rw [Bool.not_false, Bool.true_and, Bool.true_and]
    rcases tSide_cases _ _ (h t ht) with ⟨e1, e2, _, _⟩ | ⟨_, _, e3, e4, _⟩
    · unfold emB at he; rw [e1, e2] at he; cases he
    · rw [e4]
      rcases hd with a | a <;> rcases e3 with b | b <;> rw [a, b] <;> rfl
  · rfl
theorem tCas_bits (c : Int) (h : casB c = true) : tCas c / 1 % 2 = c / 4 % 2 ∧ tCas c / 2 % 2 = c / 8 % 2 ∧ tCas c / 4 % 2 = c / 1 % 2 ∧ tCas c / 8 % 2 = c / 2 % 2 ∧ ¬ (tCas c < 0 ∨ 15 < tCas c) ∧ ¬ (c < 0 ∨ 15 < c) := by
  have hc : 0 ≤ c ∧ c ≤ 15 := by unfold casB at h; simpa using h
  obtain ⟨n, rfl⟩ := Int.eq_ofNat_of_zero_le hc.1
  have h2 : ∀ n : Nat, n < 16 → tCas (n : Int) / 1 % 2 = (n : Int) / 4 % 2 ∧ tCas (n : Int) / 2 % 2 = (n : Int) / 8 % 2 ∧ tCas (n : Int) / 4 % 2 = (n : Int) / 1 % 2 ∧ tCas (n : Int) / 8 % 2 = (n : Int) / 2 % 2 ∧ ¬ (tCas (n : Int) < 0 ∨ 15 < tCas (n : Int)) ∧ ¬ ((n : Int) < 0 ∨ 15 < (n : Int)) := by decide +kernel
  exact h2 n (by omega)
theorem rook_turn (P : Nat → Int) (h : Fit P) (r r' : Nat) (hr : r < 64) (e : r' = mir r) (d : Int) (hd : d = 0 ∨ d = 1) : pe (turnN P (2 * r')) (turnN P (2 * r' + 1)) 4 (oth d) = pe (P (2 * r)) (P (2 * r + 1)) 4 d := by
  subst e
  rw [turnN_k P _ (mir_lt r hr), turnN_d P _ (mir_lt r hr), mir_mir r hr, pe_turn _ _ _ _ (h r hr) (by omega) hd]
theorem bare_turn' (P : Nat → Int) (h : Fit P) (a b : Nat) (hb : b < 64) (e : a = mir b) : bareR (turnN P) (a : Nat) = bareR P (b : Nat) := by
  subst e; rw [← mI_nat b hb, bareR_turn P h]
theorem castle_turn (P : Nat → Int) (h : Fit P) (hd : P 128 = 0 ∨ P 128 = 1) (hc : casB (P 129) = true) (s t : Nat) (hs : s < 64) (ht : t < 64) (ho : P (2 * s + 1) = P 128) (ho2 : turnN P (2 * mir s + 1) = oth (P 128)) : castleR (turnN P) (mir s) (mir t) = castleR P s t := by
  obtain ⟨b1, b2, b3, b4, b5, b6⟩ := tCas_bits _ hc
  unfold castleR
  rw [ho2, ho, (turnN_parts P).2.1]
  have hh : ∀ d, (d = 0 ∨ d = 1) → ((mir s = homeR (oth d)) ↔ (s = homeR d)) := fun d h1 => by
    rcases h1 with rfl | rfl
    · rw [show homeR (oth 0) = 60 by decide, show homeR 0 = 4 by decide]; unfold mir; omega
    · rw [show homeR (oth 1) = 4 by decide, show homeR 1 = 60 by decide]; unfold mir; omega
  by_cases h4 : s = homeR (P 128)
  · have n1 : ¬ (mir s ≠ homeR (oth (P 128)) ∨ tCas (P 129) < 0 ∨ 15 < tCas (P 129)) := by
      rintro (h | h)
      · exact h ((hh _ hd).2 h4)
      · exact b5 h
    have n2 : ¬ (s ≠ homeR (P 128) ∨ P 129 < 0 ∨ 15 < P 129) := by
      rintro (h | h)
      · exact h h4
      · exact b6 h
    rw [if_neg n1, if_neg n2]
    have hss : s = 4 ∨ s = 60 := by rw [h4]; unfold homeR; split <;> simp
    have hr1 : s + 3 < 64 := by omega
    have e1 : mir s + 3 = mir (s + 3) := by unfold mir; omega
    have e2 : mir s - 4 = mir (s - 4) := by unfold mir; omega
    rw [rook_turn P h (s + 3) (mir s + 3) (by omega) e1 _ hd, rook_turn P h (s - 4) (mir s - 4) (by omega) e2 _ hd]
    rw [bare_turn' P h (mir s + 1) (s + 1) (by omega) (by unfold mir; omega), bare_turn' P h (mir s + 2) (s + 2) (by omega) (by unfold mir; omega), bare_turn' P h (mir s - 1) (s - 1) (by omega) (by unfold mir; omega), bare_turn' P h (mir s - 2) (s - 2) (by omega) (by unfold mir; omega), bare_turn' P h (mir s - 3) (s - 3) (by omega) (by unfold mir; omega)]
    have hsh : tCas (P 129) / shortR (oth (P 128)) % 2 = P 129 / shortR (P 128) % 2 := by
      rcases hd with e | e <;> rw [e]
      · exact b3
      · exact b1
    have hfa : tCas (P 129) / farR (oth (P 128)) % 2 = P 129 / farR (P 128) % 2 := by
      rcases hd with e | e <;> rw [e]
      · exact b4
      · exact b2
    rw [hsh, hfa]
    have et : (mir t + 2 == mir s) = (t + 2 == s) := by rw [Bool.eq_iff_iff, beq_iff_eq, beq_iff_eq]; unfold mir; omega
    rw [et]
    by_cases h2 : t = s + 2
    · have h3 : mir t = mir s + 2 := by unfold mir; omega
      rw [if_pos h2, if_pos h3]
    · have h3 : ¬ mir t = mir s + 2 := by unfold mir; omega
      rw [if_neg h2, if_neg h3]
  · have n1 : mir s ≠ homeR (oth (P 128)) ∨ tCas (P 129) < 0 ∨ 15 < tCas (P 129) := .inl fun h => h4 ((hh _ hd).1 h)
    have n2 : s ≠ homeR (P 128) ∨ P 129 < 0 ∨ 15 < P 129 := .inl h4
    rw [if_pos n1, if_pos n2]
/-- where a piece goes, turned -/
theorem goB_turn (P : Nat → Int) (h : Fit P) (hd : P 128 = 0 ∨ P 128 = 1) (hc : casB (P 129) = true) (s t : Nat) (hs : s < 64) (ht : t < 64) (ho : ownB P s = true) : goB (turnN P) (mir s) (mir t) = goB P s t := by
  have ho2 := ho
  rw [← ownB_turn P h hd s hs] at ho2
  obtain ⟨p1, p2⟩ := own_parts P s ho
  obtain ⟨q1, q2⟩ := own_parts _ _ ho2
  have q3 := q2
  rw [(turnN_parts P).1] at q3
  have hcas := castle_is P s t hs ht p2 p1
  have hcas2 := castle_is (turnN P) (mir s) (mir t) (mir_lt s hs) (mir_lt t ht) q2 q1
  unfold goB
  rw [turnN_k P _ (mir_lt s hs), mir_mir s hs, ahead_turn P h hd s t hs ht, att_turn P s t hs ht, mown_turn P h hd t ht, ← hcas, ← hcas2, castle_turn P h hd hc s t hs ht p2 q3]
  unfold slantB
  rw [moth_turn P h hd t ht, over_mir P t ht, emB_turn P h t ht]
/-- a move, turned -/
def tM (m : Int × Int × Int) : Int × Int × Int := (mI m.1, mI m.2.1, m.2.2)
theorem tM_ok (P : Nat → Int) (h : Fit P) (hd : P 128 = 0 ∨ P 128 = 1) (hc : casB (P 129) = true) (m : Int × Int × Int) (s n : Nat) (hm : MvOk P m s n) : MvOk (turnN P) (tM m) (mir s) (mir n) := by
  have h1 := hm.hs
  have h2 := hm.hn
  refine ⟨?_, ?_, mir_lt s h1, mir_lt n h2, ?_, ?_, ?_⟩
  · unfold tM; rw [hm.f, mI_nat s h1]
  · unfold tM; rw [hm.t, mI_nat n h2]
  · rw [ownB_turn P h hd s h1]; exact hm.o
  · rw [goB_turn P h hd hc s n h1 h2 hm.o]; exact hm.g
  · show becB _ _ _ m.2.2 = true
    rw [becB_turn P hd s n h1 h2]; exact hm.b
theorem turn_mem (P : Nat → Int) (h : rightB P = true) (m : Int × Int × Int) (hm : m ∈ allM P) : tM m ∈ allM (turnN P) := by
  obtain ⟨s, n, hk⟩ := allM_mem P m hm
  exact (allM_iff _ _).2 ⟨_, _, tM_ok P (right_fit P h) (right_side P h) (right_cas P h) m s n hk⟩
theorem mI_inj (a b : Int) (h : mI a = mI b) : a = b := by unfold mI at h; omega
theorem tM_inj (a b : Int × Int × Int) (h : tM a = tM b) : a = b := by
  obtain ⟨a1, a2, a3⟩ := a
  obtain ⟨b1, b2, b3⟩ := b
  unfold tM at h
  simp only [Prod.mk.injEq] at h
  rw [mI_inj _ _ h.1, mI_inj _ _ h.2.1, h.2.2]
theorem nodup_le {l r : List (Int × Int × Int)} (hl : l.Nodup) (hs : ∀ x ∈ l, x ∈ r) : l.length ≤ r.length := by
  induction l generalizing r with
  | nil => simp
  | cons a l ih =>
    rw [List.nodup_cons] at hl
    have ha : a ∈ r := hs a (by simp)
    have h1 := ih (r := r.erase a) hl.2 fun x hx => (List.mem_erase_of_ne (by rintro rfl; exact hl.1 hx)).2 (hs x (by simp [hx]))
    have h2 := List.length_erase_of_mem ha
    have h3 : 0 < r.length := List.length_pos_of_mem ha
    simp only [List.length_cons]
    omega
theorem turn_le (P Q : Nat → Int) (h : ∀ m ∈ allM P, tM m ∈ allM Q) : (allM P).length ≤ (allM Q).length := by
  have h1 : ((allM P).map tM).Nodup := by
    rw [List.nodup_iff_pairwise_ne, List.pairwise_map]
    exact (List.nodup_iff_pairwise_ne.1 (allM_nodup P)).imp fun hne e => hne (tM_inj _ _ e)
  have h2 := nodup_le h1 (r := allM Q) fun x hx => by
    obtain ⟨m, hm, rfl⟩ := List.mem_map.1 hx
    exact h m hm
  simpa using h2
theorem fit_cas_turn (P : Nat → Int) (h : rightB P = true) : Fit (turnN P) ∧ (turnN P 128 = 0 ∨ turnN P 128 = 1) ∧ casB (turnN P 129) = true := by
  refine ⟨fit_turn P (right_fit P h), ?_, ?_⟩
  · rw [(turnN_parts P).1]; exact (oth_side (right_side P h)).1
  · rw [(turnN_parts P).2.1]; exact tCas_cas _ (right_cas P h)
theorem turn_full (P : Nat → Int) (h : Fit P) (hs : P 128 = 0 ∨ P 128 = 1) : turnN (turnN P) = P := by
  funext i
  by_cases hi : i < 133
  · exact turn_twice P h hs i hi
  · unfold turnN
    rw [if_neg (by omega), if_neg (by omega), if_neg (by omega), if_neg (by omega), if_neg (by omega), if_neg (by omega), if_neg (by omega), if_neg (by omega)]
theorem turn_len (P : Nat → Int) (h : rightB P = true) : (allM (turnN P)).length = (allM P).length := by
  obtain ⟨f1, f2, f3⟩ := fit_cas_turn P h
  have htt := turn_full P (right_fit P h) (right_side P h)
  refine Nat.le_antisymm ?_ (turn_le P _ (turn_mem P h))
  have h1 : ∀ m ∈ allM (turnN P), tM m ∈ allM P := fun m hm => by
    obtain ⟨s, n, hk⟩ := allM_mem _ m hm
    have := tM_ok (turnN P) f1 f2 f3 m s n hk
    rw [htt] at this
    exact (allM_iff _ _).2 ⟨_, _, this⟩
  exact turn_le _ _ h1
/-- with the other side to move no piece moves that moved -/
theorem other_moves (P : Nat → Int) (hd : P 128 = 0 ∨ P 128 = 1) (m : Int × Int × Int) (hm : m ∈ allM (setN P 128 (oth (P 128)))) : ∃ s : Nat, s < 64 ∧ m.1 = (s : Int) ∧ P (2 * s + 1) ≠ P 128 := by
  obtain ⟨s, n, hk⟩ := allM_mem _ m hm
  have h := (own_parts _ _ hk.o).2
  have h1 := hk.hs
  rw [setN_off _ _ _ _ (by omega), show setN P 128 (oth (P 128)) 128 = oth (P 128) by unfold setN; rw [if_pos rfl]] at h
  exact ⟨s, h1, hk.f, by rw [h]; exact (oth_side hd).2.2⟩
end Go.Proofs.YthinkiljhkanhaaGreatDoor
