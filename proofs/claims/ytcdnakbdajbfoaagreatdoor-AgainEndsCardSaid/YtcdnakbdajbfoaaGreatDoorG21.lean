/-
  Merged: Mx, Nc, Ms.
-/
import Derived.Test.YtcdnakbdajbfoaaGreatDoorG20
import Derived.Test.YtcdnakbdajbfoaaGreatDoorG9
import Derived.Test.YtcdnakbdajbfoaaGreatDoorG4
import Derived.Test.YtcdnakbdajbfoaaGreatDoorG19
import Derived.Test.YtcdnakbdajbfoaaGreatDoorG18

namespace Go.Proofs.YtcdnakbdajbfoaaGreatDoor
open Go.RowKit Go.Sort
set_option linter.unusedSimpArgs false
set_option linter.unusedVariables false
set_option maxRecDepth 20000

theorem infoMv9 : ∃ i, Tryz.prog.info? 52 = some i ∧ (i.zero, i.size, i.bytes) = (some (.agg #[.int .i64 0, .int .i64 0, .int .i64 0]), 3, 24) := by
  have h : (Tryz.prog.info? 52).map (fun i => (i.zero, i.size, i.bytes)) = some (some (.agg #[.int .i64 0, .int .i64 0, .int .i64 0]), 3, 24) := by kernel_rfl
  exact Option.map_eq_some_iff.1 h
set_option maxHeartbeats 8000000 in
set_option maxRecDepth 100000 in
theorem rFrom9_any (P : Nat → Int) (s : Int) (w : World) :
    Calls Tryz.prog 72 #[.agg (pc P).toArray, .int .i64 s] w fun e w' => ∃ v, e = .returned v ∧ Below w.heap.size w w' ∧ w'.ownsRow w.heap.size 52 3 v (fromM P s).length (mvals (fromM P s)) := by
  obtain ⟨i1, hi1, hk⟩ := infoMv9
  simp only [Prod.mk.injEq] at hk
  obtain ⟨hk0, hk1, hk2⟩ := hk
  obtain ⟨X, hX⟩ : ∃ X, X = (pc P).toArray := ⟨_, rfl⟩
  have HA := Lib.hid (fun a b ha hb W => rGoes_any P a b ha hb W)
  rw [← hX] at HA ⊢
  have HX := Lib.hid hX
  have HP := Lib.hid (show PB (w.alloc (.cells X 30)) w.heap.size P by subst hX; exact PB.new rfl)
  have HB := Lib.hid (below_new (w := w) (.cells X 30))
  clear hX
  go_enter Tryz.func72, Tryz.ntmps72
  go_upto_region 1 with (fail)
  generalize w.alloc (.cells X 30) = W at *
  rcases sq_cases s with ⟨h1, hs⟩ | ⟨h1, hs⟩ | ⟨s0, s1, hs⟩
  · have HF := Lib.hid (show fromM P s = [] by unfold fromM; rw [hs]; rfl)
    clear hs HA
    go_wp2
    go_loopw [5, 6] (fun v i wr => v = .slice none 0 0 ∧ i = .int .i64 0 ∧ wr = W) (fun _ i _ => 1)
    case atStart => exact ⟨rfl, rfl, rfl⟩
    case round =>
      obtain ⟨rfl, rfl, rfl⟩ := hrel
      go_wp2
      go_ret
      exact ⟨.slice none 0 0, rfl, HB.out, by rw [HF.out]; exact World.ownsRow_nil _ _ _ _⟩
  · have HF := Lib.hid (show fromM P s = [] by unfold fromM; rw [hs]; rfl)
    have hs0 : 0 ≤ s := by omega
    clear hs HA
    go_wp2
    go_loopw [5, 6] (fun v i wr => v = .slice none 0 0 ∧ i = .int .i64 0 ∧ wr = W) (fun _ i _ => 1)
    case atStart => exact ⟨rfl, rfl, rfl⟩
    case round =>
      obtain ⟨rfl, rfl, rfl⟩ := hrel
      go_wp2
      go_ret
      exact ⟨.slice none 0 0, rfl, HB.out, by rw [HF.out]; exact World.ownsRow_nil _ _ _ _⟩
  · obtain ⟨a, rfl⟩ := Int.eq_ofNat_of_zero_le s0
    have ha : a < 64 := by omega
    have HF := Lib.hid (show fromM P (a : Int) = refM P a 64 from (refM_end P a ha).symm)
    clear hs
    go_wp2
    go_loopw [5, 6] (fun v i wr => ∃ j : Nat, j ≤ 64 ∧ i = .int .i64 (j : Int) ∧ Below W.heap.size W wr ∧ wr.ownsRow W.heap.size 52 3 v (refM P a j).length (mvals (refM P a j))) (fun _ i _ => 64 - (intOf i).toNat)
    case atStart => exact ⟨0, Nat.zero_le _, rfl, Below.refl _ _, by rw [show refM P a 0 = [] by unfold refM; split <;> rfl]; exact World.ownsRow_nil _ _ _ _⟩
    case round =>
      obtain ⟨j, hj, rfl, hb, hown⟩ := hrel
      by_cases hlt : j < 64
      · have HPR := Lib.hid (HP.out.go hb)
        have hfl := refM_len P a j (by omega)
        have hsx := refM_succ P a j ha hlt
        have hlb := oneM_is P a j ha hlt
        obtain ⟨L, hL⟩ : ∃ L, refM P a j = L := ⟨_, rfl⟩
        rw [hL] at hown hfl hsx
        obtain ⟨gv, hgv⟩ : ∃ b, goesR P a j = b := ⟨_, rfl⟩
        have HG := Lib.hid (HA.out a j ha hlt)
        rw [hgv] at hsx hlb HG
        have HS := Lib.hid hsx
        have HLB := Lib.hid hlb
        have HOW := Lib.hid hown
        have HB1 := Lib.hid hb
        clear hL hsx hown hb hgv hlb
        have hj0 : (0 : Int) ≤ j := by omega
        have hj1 : (j : Int) < 64 := by omega
        go_wp2_with (refine wpList_pos (by rfl) _ (by rfl) w.heap.size P X HX.out (by rfl) HPR.out ?_)
        refine (HG.out _).mono ?_
        rintro e w2 ⟨rfl, hb2⟩
        have HOD := Lib.hid (owns_go HOW.out hb2)
        have HBD := Lib.hid (HB1.out.trans (hb2.mono HB1.out.size))
        have HPD := Lib.hid (HPR.out.go hb2)
        clear hb2 HOW HB1 HPR HG
        cases gv
        · have HS2 := Lib.hid (show refM P a (j + 1) = L by rw [HS.out]; simp)
          clear HS HLB
          go_wp2
          go_roundw
          case rel => exact ⟨j + 1, by omega, by go_num, HBD.out, by rw [HS2.out]; exact HOD.out⟩
          case measure => simp [intOf]; omega
        · have HS2 := Lib.hid (show refM P a (j + 1) = L ++ oneM P a j by rw [HS.out]; simp)
          replace HLB := Lib.hid (HLB.out rfl)
          have HON := Lib.hid (oneM_kinds P a (j : Int))
          rw [Int.toNat_natCast] at HON
          obtain ⟨lb, hlb⟩ : ∃ b, lastB P a j = b := ⟨_, rfl⟩
          rw [hlb] at HLB HON
          rw [Nat.mul_comm 2 a] at HLB
          obtain ⟨r, hr⟩ : ∃ r : Nat, j / 8 = r := ⟨_, rfl⟩
          rw [hr] at HLB
          have td : (j : Int).tdiv 8 = (r : Int) := by rw [Int.tdiv_eq_ediv_of_nonneg (by omega)]; omega
          have td2 : (j : Int) / 8 = (r : Int) := by omega
          have tw : wrap64 (r : Int) = (r : Int) := by unfold wrap64; omega
          have e1 := HPD.out.cell (a * 2) (by omega)
          have e2 := HPD.out.cell (a * 2 + 1) (by omega)
          obtain ⟨kk, hkk⟩ : ∃ x, P (a * 2) = x := ⟨_, rfl⟩
          obtain ⟨dd, hdd⟩ : ∃ x, P (a * 2 + 1) = x := ⟨_, rfl⟩
          rw [hkk] at e1 HLB
          rw [hdd] at e2 HLB
          clear hlb hr hkk hdd HS
          go_upto_region 7 with (fail)
          have HBE := Lib.hid (HBD.out.trans ((below_new (w := w2) (.cells #[.int .i64 kk, .int .i64 dd] 26)).mono HBD.out.size))
          have HOE := Lib.hid (owns_go HOD.out (below_new (w := w2) (.cells #[.int .i64 kk, .int .i64 dd] 26)))
          have HXE := Lib.hid (show (w2.alloc (.cells #[.int .i64 kk, .int .i64 dd] 26)).heap[w2.heap.size]? = some (.cells #[.int .i64 kk, .int .i64 dd] 26 (0, 0)) from sl_at rfl)
          generalize w2.alloc (.cells #[.int .i64 kk, .int .i64 dd] 26) = W3 at *
          generalize w2.heap.size = xb at *
          clear e1 e2 HBD HOD HPD
          go_cut [52] from 30 to 52 (fun v wx => v = .bool lb ∧ W3 = wx)
          case first =>
            obtain ⟨x1, x2, _, _⟩ := row2 HXE.out
            by_cases hk : kk = 1
            case neg =>
              have hk2 : (kk == 1) = false := by simp [hk]
              rw [hk2] at HLB
              clear hk
              go_wp2_with fail
              go_meet
              exact ⟨by rw [HLB.out]; rfl, rfl⟩
            subst hk
            by_cases hd : dd = 0
            · subst hd
              by_cases h7 : r = 7
              · subst h7
                go_wp2_with fail
                go_meet
                exact ⟨by rw [HLB.out]; rfl, rfl⟩
              · have h7b : ((r : Int) == 7) = false := by simp; omega
                have h7c : (r == 7) = false := by simp; omega
                rw [h7c] at HLB
                clear h7
                go_wp2_with fail
                go_meet
                exact ⟨by rw [HLB.out]; rfl, rfl⟩
            · have hd2 : (dd == 0) = false := by simp [hd]
              rw [hd2] at HLB
              by_cases h1 : dd = 1
              · subst h1
                have h0 : ((r : Int) == 0) = (r == 0) := by rw [Bool.eq_iff_iff]; first | (simp; done) | (simp; omega)
                clear hd
                go_wp2_with fail
                go_meet
                exact ⟨by rw [HLB.out]; try simp [h0], rfl⟩
              · have h1b : (dd == 1) = false := by simp [h1]
                rw [h1b] at HLB
                clear hd h1
                go_wp2_with fail
                go_meet
                exact ⟨by rw [HLB.out]; rfl, rfl⟩
          case rest =>
          obtain ⟨rfl, rfl⟩ := hcut
          clear HLB HXE
          cases lb
          · have HS3 := Lib.hid (show refM P a (j + 1) = L ++ [((a : Int), (j : Int), 0)] by rw [HS2.out, HON.out]; rfl)
            have hm1 : L.length + 1 ≤ maxLen := by unfold maxLen; omega
            clear HS2 HON
            go_wp2_with (at_builtin; refine wpList_append_lies _ rfl (.tmp 64) (.tmp 68) 46 rfl W.heap.size 52 i1 (.agg #[.int .i64 0, .int .i64 0, .int .i64 0]) 3 24 Tryz.underlying46 hi1 hk0 hk1 hk2 rfl (by decide) _ L.length (mvals L) rfl (owns_go HOE.out ((Below.refl _ _).alloc (Nat.le_refl _) _)) ⟨W3.heap.size, 0, none⟩ 1 1 [.int .i64 (a : Int), .int .i64 (j : Int), .int .i64 0] rfl rfl (World.news_of_block (heap_alloc_new _ _)) ?c2 (by decide) hm1 (by omega) (by have h : W.heap.size ≤ W3.heap.size := HBE.out.size; simp; omega) (W3.heap.size + 1) (by simp) ?next)
            case c2 => intro y hy; simp at hy; rcases hy with rfl | rfl | rfl <;> rfl
            case next =>
              intro g1 cap1 w4 hown1 hgrow1 hat1 hlt3
              rw [mvals_snoc] at hown1
              have HB4 := Lib.hid ((HBE.out.alloc HBE.out.size _).grown hgrow1 (by have h : W.heap.size ≤ W3.heap.size := HBE.out.size; simp; omega) (fun b e => (HOE.out.lt b e).1))
              have HO4 := Lib.hid hown1
              clear hgrow1 hown1 hat1 HBE HOE
              go_wp2
              go_roundw
              case rel => exact ⟨j + 1, by omega, by go_num, HB4.out, by rw [HS3.out, List.length_append]; exact HO4.out⟩
              case measure => simp [intOf]; omega
          · have HS3 := Lib.hid (show refM P a (j + 1) = L ++ kindsM a (j : Int) 2 4 by rw [HS2.out, HON.out]; rfl)
            clear HS2 HON
            go_wp2
            go_loopw [5, 8] (fun ts kv wr => ∃ (m : Nat) (v : Value), m ≤ 4 ∧ kv = .int .i64 (2 + (m : Int)) ∧ ts = v ∧ Below W.heap.size W wr ∧ wr.ownsRow W.heap.size 52 3 v (L ++ kindsM a (j : Int) 2 m).length (mvals (L ++ kindsM a (j : Int) 2 m))) (fun _ kv _ => 10 - (intOf kv).toNat)
            case atStart => exact ⟨0, _, Nat.zero_le _, rfl, rfl, HBE.out, by rw [show kindsM a (j : Int) 2 0 = [] from rfl, List.append_nil]; exact HOE.out⟩
            case round =>
              clear HBE HOE
              obtain ⟨m, v, hm, rfl, rfl, hb, hown⟩ := hrel
              have HBE := Lib.hid hb
              clear hb
              by_cases hmk : m < 4
              · have hsn := kindsM_succ a (j : Int) 2 m
                have hkl : (kindsM a (j : Int) 2 m).length = m := by unfold kindsM; simp
                obtain ⟨K, hK⟩ : ∃ K, L ++ kindsM a (j : Int) 2 m = K := ⟨_, rfl⟩
                obtain ⟨km, hkm⟩ : ∃ x : Int, 2 + (m : Int) = x := ⟨_, rfl⟩
                have HKS := Lib.hid (show L ++ kindsM a (j : Int) 2 (m + 1) = K ++ [((a : Int), (j : Int), km)] by rw [hsn, ← List.append_assoc, hK, hkm])
                have hkl2 : K.length ≤ 300 := by rw [← hK, List.length_append, hkl]; omega
                rw [hK] at hown
                have HOW := Lib.hid hown
                have hkm1 : 2 + ((m + 1 : Nat) : Int) = km + 1 := by omega
                have hkm2 : 2 ≤ km ∧ km ≤ 5 := by omega
                have hz : km ≤ 5 := by omega
                have hkm3 : wrap64 (km + 1) = km + 1 := by have := hkm2; unfold wrap64; omega
                rw [hkm]
                have HK1 := Lib.hid hkm1
                have HK2 := Lib.hid hkm2
                clear hown hK hsn hkl hkm hkm1 hkm2
                have hm1 : K.length + 1 ≤ maxLen := by unfold maxLen; omega
                go_wp2_with (at_builtin; refine wpList_append_lies _ rfl (.tmp 57) (.tmp 62) 46 rfl W.heap.size 52 i1 (.agg #[.int .i64 0, .int .i64 0, .int .i64 0]) 3 24 Tryz.underlying46 hi1 hk0 hk1 hk2 rfl (by decide) _ K.length (mvals K) rfl (owns_go HOW.out ((Below.refl _ _).alloc (Nat.le_refl _) _)) ⟨wr.heap.size, 0, none⟩ 1 1 [.int .i64 (a : Int), .int .i64 (j : Int), .int .i64 km] rfl rfl (World.news_of_block (heap_alloc_new _ _)) ?c2 (by decide) hm1 (by omega) (by have h : W.heap.size ≤ wr.heap.size := HBE.out.size; simp; omega) (wr.heap.size + 1) (by simp) ?next)
                case c2 => intro y hy; simp at hy; rcases hy with rfl | rfl | rfl <;> rfl
                case next =>
                  intro g1 cap1 w4 hown1 hgrow1 hat1 hlt3
                  rw [mvals_snoc] at hown1
                  have HB4 := Lib.hid ((HBE.out.alloc HBE.out.size _).grown hgrow1 (by have h : W.heap.size ≤ wr.heap.size := HBE.out.size; simp; omega) (fun b e => (HOW.out.lt b e).1))
                  have HO4 := Lib.hid hown1
                  clear hgrow1 hown1 hat1 HBE HOW
                  go_wp2
                  go_roundw
                  case rel => exact ⟨m + 1, _, by omega, by rw [HK1.out]; first | rfl | rw [hkm3], rfl, HB4.out, by rw [HKS.out, List.length_append]; exact HO4.out⟩
                  case measure => have := HK2.out; simp [intOf]; omega
              · obtain rfl : m = 4 := by omega
                have HOW := Lib.hid hown
                clear hown
                rw [show (2 : Int) + ((4 : Nat) : Int) = 6 from rfl]
                go_wp2
                go_roundw
                case rel => exact ⟨j + 1, by omega, by go_num, HBE.out, by rw [HS3.out]; exact HOW.out⟩
                case measure => simp [intOf]; omega
      · obtain rfl : j = 64 := by omega
        have HO := Lib.hid hown
        have HBK := Lib.hid hb
        clear hown hb
        rw [show ((64 : Nat) : Int) = 64 from rfl]
        go_wp2
        go_ret
        exact ⟨_, rfl, HB.out.trans (HBK.out.mono HB.out.size), by rw [HF.out]; exact owns_base HO.out HB.out.size⟩
set_option maxHeartbeats 8000000 in
set_option maxRecDepth 100000 in
theorem rAll9_any (P : Nat → Int) (w : World) :
    Calls Tryz.prog 46 #[.agg (pc P).toArray] w fun e w' => ∃ v, e = .returned v ∧ Below w.heap.size w w' ∧ w'.ownsRow w.heap.size 52 3 v (allM P).length (mvals (allM P)) := by
  obtain ⟨i1, hi1, hk⟩ := infoMv9
  simp only [Prod.mk.injEq] at hk
  obtain ⟨hk0, hk1, hk2⟩ := hk
  obtain ⟨X, hX⟩ : ∃ X, X = (pc P).toArray := ⟨_, rfl⟩
  have HA := Lib.hid (fun (s : Nat) W => rFrom9_any P (s : Int) W)
  rw [← hX] at HA ⊢
  have HX := Lib.hid hX
  have HP := Lib.hid (show PB (w.alloc (.cells X 30)) w.heap.size P by subst hX; exact PB.new rfl)
  have HB := Lib.hid (below_new (w := w) (.cells X 30))
  clear hX
  go_enter Tryz.func46, Tryz.ntmps46
  go_upto_region 1 with (fail)
  generalize w.alloc (.cells X 30) = W at *
  go_wp2
  go_loopw [3, 4] (fun v i wr => ∃ j : Nat, j ≤ 64 ∧ i = .int .i64 (j : Int) ∧ Below W.heap.size W wr ∧ wr.ownsRow W.heap.size 52 3 v (flatM P (upList (ownB P) j)).length (mvals (flatM P (upList (ownB P) j)))) (fun _ i _ => 64 - (intOf i).toNat)
  case atStart => exact ⟨0, Nat.zero_le _, rfl, Below.refl _ _, World.ownsRow_nil _ _ _ _⟩
  case round =>
    obtain ⟨j, hj, rfl, hb, hown⟩ := hrel
    by_cases hlt : j < 64
    · have HPR := Lib.hid (HP.out.go hb)
      have hfl := flatM_len P (upList (ownB P) j)
      have hul := upList_len (ownB P) j
      have hsx := flatM_up P j hlt
      have hml : (fromM P (j : Int)).length ≤ 280 := by
        unfold fromM
        split
        · exact movesL_len P _
        · simp
      obtain ⟨L, hL⟩ : ∃ L, flatM P (upList (ownB P) j) = L := ⟨_, rfl⟩
      obtain ⟨M, hM⟩ : ∃ M, fromM P (j : Int) = M := ⟨_, rfl⟩
      have HG := Lib.hid (HA.out j)
      rw [hL] at hown hfl hsx
      rw [hM] at hsx HG hml
      have hfl2 : L.length ≤ 17920 := by omega
      have HS := Lib.hid hsx
      have HOW := Lib.hid hown
      have HB1 := Lib.hid hb
      clear hL hM hsx hown hb hfl hul
      go_wp2_with (refine wpList_pos (by rfl) _ (by rfl) w.heap.size P X HX.out (by rfl) HPR.out ?_)
      refine (HG.out _).mono ?_
      rintro e w2 ⟨v2, rfl, hb2, hown2⟩
      have HOD := Lib.hid (owns_go HOW.out hb2)
      have HBD := Lib.hid (HB1.out.trans (hb2.mono HB1.out.size))
      have HO2 := Lib.hid hown2
      clear hb2 HOW HB1 HPR HG hown2
      go_wp2_with (at_builtin; refine wpList_append_rows rfl (.tmp 9) (.tmp 12) 46 rfl W.heap.size wr.heap.size 52 i1 (.agg #[.int .i64 0, .int .i64 0, .int .i64 0]) 3 24 Tryz.underlying46 hi1 hk0 hk1 hk2 rfl (by decide) _ L.length (mvals L) rfl HOD.out v2 M.length (mvals M) rfl HO2.out (mvals_one _) (by unfold maxLen; omega) (by omega) HBD.out.size ?_)
      intro v3 w3 hown hgr
      have HB4 := Lib.hid (HBD.out.grown hgr HBD.out.size (fun k e => (HOD.out.lt k e).1))
      rw [mvals_app] at hown
      have HO3 := Lib.hid hown
      clear hown hgr
      go_wp2
      go_roundw
      case rel => exact ⟨j + 1, by omega, by go_num, HB4.out, by rw [HS.out, List.length_append]; exact HO3.out⟩
      case measure => simp [intOf]; omega
    · obtain rfl : j = 64 := by omega
      have HO := Lib.hid hown
      have HBK := Lib.hid hb
      have HAL := Lib.hid (show flatM P (upList (ownB P) 64) = allM P from rfl)
      clear hown hb
      rw [show ((64 : Nat) : Int) = 64 from rfl]
      go_wp2
      go_ret
      exact ⟨_, rfl, HB.out.trans (HBK.out.mono HB.out.size), by rw [← HAL.out]; exact owns_base HO.out HB.out.size⟩
end Go.Proofs.YtcdnakbdajbfoaaGreatDoor

namespace Go.Proofs.YtcdnakbdajbfoaaGreatDoor
open Go.RowKit Go.Sort
set_option linter.unusedSimpArgs false
set_option linter.unusedVariables false
set_option maxRecDepth 20000

end Go.Proofs.YtcdnakbdajbfoaaGreatDoor

namespace Go.Proofs.YtcdnakbdajbfoaaGreatDoor
open Go.RowKit Go.Sort
set_option linter.unusedSimpArgs false
set_option linter.unusedVariables false
set_option maxRecDepth 20000

theorem allM_iff (P : Nat → Int) (m : Int × Int × Int) : m ∈ allM P ↔ ∃ s n, MvOk P m s n := by
  refine ⟨allM_mem P m, ?_⟩
  rintro ⟨s, n, h⟩
  rw [allM_up]
  refine List.mem_flatMap.2 ⟨(s : Int), (upList_mem _ _ _).2 ⟨s, h.hs, h.o, rfl⟩, ?_⟩
  rw [Int.toNat_natCast]
  unfold putL
  refine List.mem_flatMap.2 ⟨(n : Int), (upList_mem _ _ _).2 ⟨n, h.hn, h.g, rfl⟩, ?_⟩
  obtain ⟨f, t, k⟩ := m
  have h1 : f = (s : Int) := h.f
  have h2 : t = (n : Int) := h.t
  have h3 : becB P s n k = true := h.b
  subst h1; subst h2
  unfold oneM
  rw [Int.toNat_natCast]
  unfold becB at h3
  unfold lastB
  split at h3
  · rename_i hl
    rw [if_pos hl]
    simp only [Bool.and_eq_true, decide_eq_true_eq] at h3
    rcases (show k = 2 ∨ k = 3 ∨ k = 4 ∨ k = 5 by omega) with rfl | rfl | rfl | rfl <;> simp
  · rename_i hl
    rw [if_neg hl]
    have : k = 0 := by simpa using h3
    subst this
    simp
end Go.Proofs.YtcdnakbdajbfoaaGreatDoor
