/-
  Merged: Mh, Mi, Mj, Ba, Bx.
-/
import Derived.Test.YtkncfeijlmomaaaGreatDoorG11
import Derived.Test.YtkncfeijlmomaaaGreatDoorG3
import Derived.Test.YtkncfeijlmomaaaGreatDoorG6
import Derived.Test.YtkncfeijlmomaaaGreatDoorG7
import Derived.Maps.AppendAt
import Derived.Test.YtkncfeijlmomaaaGreatDoorG5

namespace Go.Proofs.YtkncfeijlmomaaaGreatDoor
open Go.RowKit Go.Sort
set_option linter.unusedSimpArgs false
set_option linter.unusedVariables false
set_option maxRecDepth 20000

/-- a row of moves' cells -/
def mvals (l : List (Int × Int × Int)) : List Value := l.flatMap fun m => [.int .i64 m.1, .int .i64 m.2.1, .int .i64 m.2.2]
theorem mvals_snoc (l : List (Int × Int × Int)) (f t k : Int) : mvals l ++ [.int .i64 f, .int .i64 t, .int .i64 k] = mvals (l ++ [(f, t, k)]) := by unfold mvals; rw [List.flatMap_append]; rfl
theorem mvals_app (l m : List (Int × Int × Int)) : mvals l ++ mvals m = mvals (l ++ m) := by unfold mvals; rw [List.flatMap_append]
theorem mvals_one (l : List (Int × Int × Int)) : ∀ u ∈ mvals l, u.oneCell' = true := fun u hu => by
  unfold mvals at hu
  obtain ⟨x, _, hx⟩ := List.mem_flatMap.1 hu
  simp at hx
  rcases hx with rfl | rfl | rfl <;> rfl
/-- the moves of one square: one, or four -/
def oneM (P : Nat → Int) (s : Nat) (t : Int) : List (Int × Int × Int) := if lastB P s t.toNat then [((s : Int), t, 2), ((s : Int), t, 3), ((s : Int), t, 4), ((s : Int), t, 5)] else [((s : Int), t, 0)]
def putL (P : Nat → Int) (s : Nat) (xs : List Int) : List (Int × Int × Int) := xs.flatMap (oneM P s)
/-- as many of them, from the least on -/
def kindsM (s : Nat) (t lo : Int) (n : Nat) : List (Int × Int × Int) := (List.range n).map fun (i : Nat) => ((s : Int), t, lo + (i : Int))
theorem kindsM_succ (s : Nat) (t lo : Int) (n : Nat) : kindsM s t lo (n + 1) = kindsM s t lo n ++ [((s : Int), t, lo + (n : Int))] := by
  unfold kindsM; rw [List.range_succ, List.map_append]; rfl
theorem oneM_kinds (P : Nat → Int) (s : Nat) (t : Int) : oneM P s t = kindsM s t (if lastB P s t.toNat then 2 else 0) (if lastB P s t.toNat then 4 else 1) := by
  unfold oneM kindsM
  split
  · rfl
  · rfl
theorem oneM_len (P : Nat → Int) (s : Nat) (t : Int) : (oneM P s t).length ≤ 4 := by unfold oneM; split <;> simp
theorem putL_len (P : Nat → Int) (s : Nat) (xs : List Int) : (putL P s xs).length ≤ 4 * xs.length := by
  induction xs with
  | nil => simp [putL]
  | cons a l ih =>
    unfold putL at ih ⊢
    rw [List.flatMap_cons, List.length_append]
    have := oneM_len P s a
    rw [List.length_cons]; omega
set_option maxHeartbeats 4000000 in
theorem put_any (B b : Nat) (P : Nat → Int) (s : Nat) (hs : s < 64) (xs : List Int) (hx : ∀ x ∈ xs, 0 ≤ x ∧ x < 64) (hlen : xs.length ≤ 100) (p : Option Addr) (c : Nat) (w : World) (hp : PB w b P) (hg : GS B w) (hm : GM B w) (hB : B ≤ w.heap.size)
    (hr : Reads w.heap.size w p xs.length (fun k => .int .i64 (xs.getD k 0))) :
    Calls Tryz.prog 159 #[.pointer (some ⟨b, 0, none⟩), .int .i64 (s : Int), .slice p xs.length c] w fun e w' => ∃ v, e = .returned v ∧ Below w.heap.size w w' ∧ w'.ownsRow w.heap.size 46 3 v (putL P s xs).length (mvals (putL P s xs)) := by
  obtain ⟨i1, hi1, hk⟩ : ∃ i, Tryz.prog.info? 46 = some i ∧ (i.zero, i.size, i.bytes) = (some (.agg #[.int .i64 0, .int .i64 0, .int .i64 0]), 3, 24) := by
    have h : (Tryz.prog.info? 46).map (fun i => (i.zero, i.size, i.bytes)) = some (some (.agg #[.int .i64 0, .int .i64 0, .int .i64 0]), 3, 24) := by kernel_rfl
    exact Option.map_eq_some_iff.1 h
  simp only [Prod.mk.injEq] at hk
  obtain ⟨hk0, hk1, hk2⟩ := hk
  have HI := Lib.hid (MV.begin hp hg hm hB)
  obtain ⟨n, hn⟩ : ∃ n, xs.length = n := ⟨_, rfl⟩
  have HPRE := Lib.hid (show ∀ j, j < n → putL P s (xs.take (j + 1)) = putL P s (xs.take j) ++ oneM P s (xs.getD j 0) from fun j hj => by
    unfold putL
    rw [List.take_add_one, List.getElem?_eq_getElem (by omega), List.flatMap_append, show xs.getD j 0 = xs[j] by simp [List.getD, hn, hj]]
    simp)
  have HXN := Lib.hid (show ∀ j, j < n → ∃ x : Nat, xs.getD j 0 = (x : Int) ∧ x < 64 from fun j hj => by
    have h := hx (xs.getD j 0) (by rw [show xs.getD j 0 = xs[j] by simp [List.getD, hn, hj]]; exact List.getElem_mem _)
    exact ⟨(xs.getD j 0).toNat, by omega, by omega⟩)
  have HEND := Lib.hid (show putL P s (xs.take n) = putL P s xs by rw [List.take_of_length_le (by omega)])
  have HLE := Lib.hid (show ∀ j, (putL P s (xs.take j)).length ≤ 400 from fun j => Nat.le_trans (putL_len _ _ _) (by simp; omega))
  have HBC := Lib.hid (fun (t : Nat) (ht : t < 64) W h => becomes_any b P s t hs ht W h)
  have HON := Lib.hid (oneM_kinds P s)
  rw [hn] at hr hlen ⊢
  have HR := Lib.hid hr
  have HN := Lib.hid hn
  clear hp hg hm hB hx hr hn
  go_enter Tryz.func159, Tryz.ntmps159
  go_wp2
  go_loopw [7, 15] (fun ts i wr => ∃ (j : Nat) (v : Value), j ≤ n ∧ i = .int .i64 (j : Int) ∧ ts = v ∧ MV B b P w wr ∧ wr.ownsRow w.heap.size 46 3 v (putL P s (xs.take j)).length (mvals (putL P s (xs.take j)))) (fun _ i _ => n - (intOf i).toNat)
  case atStart => exact ⟨0, _, Nat.zero_le _, rfl, rfl, HI.out, by simpa [mvals, putL] using World.ownsRow_nil w w.heap.size 46 3⟩
  case round =>
    clear HI
    obtain ⟨j, v, hj, rfl, rfl, h1, hown⟩ := hrel
    have HI := Lib.hid h1
    clear h1
    by_cases hlt : j < n
    · obtain ⟨xn, hxn, hx64⟩ := HXN.out j hlt
      have hrr := HR.out.below HI.out.bel
      obtain ⟨ab, ao, rfl⟩ := readsAddr hrr hlt
      have e0 := readsAt hrr hlt
      have hps := HPRE.out j hlt
      have hle := HLE.out j
      rw [hxn] at e0 hps
      have hon := HON.out (xn : Int)
      have hbc := HBC.out xn hx64
      rw [Int.toNat_natCast] at hon
      rw [hon] at hps
      obtain ⟨L, hL⟩ : ∃ L, putL P s (xs.take j) = L := ⟨_, rfl⟩
      rw [hL] at hps hown hle
      have HOW := Lib.hid hown
      obtain ⟨lb, hlb⟩ : ∃ x, lastB P s xn = x := ⟨_, rfl⟩
      rw [hlb] at hbc hps
      have x0 : (0 : Int) ≤ (xn : Int) := by omega
      have HPS := Lib.hid hps
      have HBB := Lib.hid hbc
      obtain ⟨lo, hlo⟩ : ∃ x : Int, (if lb then 2 else 0) = x := ⟨_, rfl⟩
      obtain ⟨hh, hhi⟩ : ∃ x : Int, (if lb then 5 else 0) = x := ⟨_, rfl⟩
      obtain ⟨nk, hnk⟩ : ∃ x : Nat, (if lb then 4 else 1) = x := ⟨_, rfl⟩
      have hb3 : 0 ≤ lo ∧ lo ≤ 2 ∧ hh = lo + (nk : Int) - 1 ∧ nk ≤ 4 ∧ 1 ≤ nk := by rw [← hlo, ← hhi, ← hnk]; cases lb <;> simp
      rw [hlo, hnk] at HPS
      rw [hlo, hhi] at HBB
      have HB3 := Lib.hid hb3
      clear hown hL hrr hxn hlb hps hbc hon hlo hhi hnk lb hx64 hb3
      go_wp2_with fail
      refine (HBB.out _ HI.out.p).mono ?_
      rintro e w5 ⟨rfl, hb⟩
      replace HI := Lib.hid (HI.out.go hb)
      replace HOW := Lib.hid (owns_go HOW.out hb)
      clear hb e0 HBB
      go_wp2
      go_loopw [7, 12] (fun ts kv wr => ∃ (m : Nat) (v : Value), m ≤ nk ∧ kv = .int .i64 (lo + (m : Int)) ∧ ts = v ∧ MV B b P w wr ∧ wr.ownsRow w.heap.size 46 3 v (L ++ kindsM s (xn : Int) lo m).length (mvals (L ++ kindsM s (xn : Int) lo m))) (fun _ kv _ => 10 - (intOf kv).toNat)
      case atStart => exact ⟨0, _, Nat.zero_le _, by rw [show lo + ((0 : Nat) : Int) = lo by omega], rfl, HI.out, by rw [show kindsM s (xn : Int) lo 0 = [] from rfl, List.append_nil]; exact HOW.out⟩
      case round =>
        clear HI HOW
        obtain ⟨m, v, hm, rfl, rfl, h1, hown⟩ := hrel
        have HI := Lib.hid h1
        clear h1
        by_cases hmk : m < nk
        · have hz : lo + (m : Int) ≤ hh := by have := HB3.out; omega
          have hsn := kindsM_succ s (xn : Int) lo m
          have hkl : (kindsM s (xn : Int) lo m).length = m := by unfold kindsM; simp
          obtain ⟨K, hK⟩ : ∃ K, L ++ kindsM s (xn : Int) lo m = K := ⟨_, rfl⟩
          have HKS := Lib.hid (show L ++ kindsM s (xn : Int) lo (m + 1) = K ++ [((s : Int), (xn : Int), lo + (m : Int))] by rw [hsn, ← List.append_assoc, hK])
          have hkl2 : K.length ≤ 500 := by rw [← hK, List.length_append, hkl]; have := HB3.out; omega
          rw [hK] at hown
          have HOW := Lib.hid hown
          obtain ⟨km, hkm⟩ : ∃ x : Int, lo + (m : Int) = x := ⟨_, rfl⟩
          have hkm1 : lo + ((m + 1 : Nat) : Int) = km + 1 := by omega
          have hkm2 : 0 ≤ km ∧ km ≤ 6 := by have := HB3.out; omega
          have hkm3 : wrap64 (km + 1) = km + 1 := by have := hkm2; unfold wrap64; omega
          rw [hkm] at HKS hz ⊢
          have HK1 := Lib.hid hkm1
          have HK2 := Lib.hid hkm2
          clear hown hK hsn hkl hkm hkm1 hkm2
          have hm1 : K.length + 1 ≤ maxLen := by unfold maxLen; omega
          go_wp2_with (at_builtin; refine wpList_append_lies _ rfl (.tmp 32) (.tmp 37) 42 rfl w.heap.size 46 i1 (.agg #[.int .i64 0, .int .i64 0, .int .i64 0]) 3 24 Tryz.underlying42 hi1 hk0 hk1 hk2 rfl (by decide) _ K.length (mvals K) rfl (owns_go HOW.out ((Below.refl _ _).alloc (Nat.le_refl _) _)) ⟨wr.heap.size, 0, none⟩ 1 1 [.int .i64 (s : Int), .int .i64 (xn : Int), .int .i64 km] rfl rfl (World.news_of_block (heap_alloc_new _ _)) ?c2 (by decide) hm1 (by omega) (by have := HI.out.bel.size; simp; omega) (wr.heap.size + 1) (by simp) ?next)
          case c2 => intro y hy; simp at hy; rcases hy with rfl | rfl | rfl <;> rfl
          case next =>
            intro g1 cap1 w4 hown1 hgrow1 hat1 hlt3
            rw [mvals_snoc] at hown1
            have HB4 := Lib.hid (((below_new (w := wr) (.cells #[.int .i64 (s : Int), .int .i64 (xn : Int), .int .i64 km] 46)).mono HI.out.bel.size).grown hgrow1 (by have := HI.out.bel.size; simp; omega) (fun b e => (HOW.out.lt b e).1))
            replace HI := Lib.hid (HI.out.go2 HB4.out)
            have HO4 := Lib.hid hown1
            clear hgrow1 hown1 hat1 HOW HB4
            go_wp2
            go_roundw
            case rel => exact ⟨m + 1, _, by omega, by rw [HK1.out]; first | rfl | rw [hkm3], rfl, HI.out, by rw [HKS.out, List.length_append]; exact HO4.out⟩
            case measure => have := HK2.out; simp [intOf]; omega
        · obtain rfl : m = nk := by omega
          have HOW := Lib.hid hown
          have hz : ¬ lo + (m : Int) ≤ hh := by have := HB3.out; omega
          clear hown
          go_wp2
          go_roundw
          case rel => exact ⟨j + 1, _, by omega, by go_num, rfl, HI.out, by rw [HPS.out]; exact HOW.out⟩
          case measure => simp [intOf]; omega
    · obtain rfl : j = n := by omega
      rw [HEND.out] at hown
      have HO := Lib.hid hown
      clear hown
      go_wp2
      go_ret
      exact ⟨_, rfl, HI.out.bel, HO.out⟩
/-- the moves of a piece -/
def movesL (P : Nat → Int) (s : Nat) : List (Int × Int × Int) := putL P s (risen (goalsL P s))
theorem upW_range (P : Nat → Int) (on : Int) (n : Nat) : ∀ a, ∀ x ∈ upW P on n a, 0 ≤ x ∧ x < 64 := by
  induction n with
  | zero => intro a x hx; cases hx
  | succ n ih =>
    intro a x hx
    unfold upW at hx
    split at hx
    · rename_i h
      rw [Bool.and_eq_true] at h
      rcases List.mem_cons.1 hx with rfl | hx
      · exact (sq_iff x).1 h.1
      · exact ih _ x hx
    · cases hx
theorem castlesL_mem (P : Nat → Int) (s : Int) (n : Nat) (x : Int) (h : x ∈ castlesL P s n) : ∃ j, j < n ∧ cstB P s j = true ∧ x = stp s (2 * mcsN (j * 4 + 3)) 0 := by
  induction n with
  | zero => cases h
  | succ n ih =>
    simp only [castlesL, List.mem_append] at h
    rcases h with h | h
    · obtain ⟨j, h1, h2⟩ := ih h
      exact ⟨j, by omega, h2⟩
    · split at h
      · rename_i hc
        exact ⟨n, by omega, hc, List.mem_singleton.1 h⟩
      · cases h
/-- where a castling leads -/
theorem cst_to (P : Nat → Int) (s : Int) (j : Nat) (hj : j < 4) (h : cstB P s j = true) : (s = 4 ∨ s = 60) ∧ (stp s (2 * mcsN (j * 4 + 3)) 0 = s + 2 ∨ stp s (2 * mcsN (j * 4 + 3)) 0 = s - 2) := by
  unfold cstB at h
  simp only [Bool.and_eq_true, beq_iff_eq] at h
  obtain ⟨⟨⟨h1, _⟩, _⟩, _⟩ := h
  rcases (show j = 0 ∨ j = 1 ∨ j = 2 ∨ j = 3 by omega) with rfl | rfl | rfl | rfl
  · have e : s = 4 := h1
    subst e; exact ⟨.inl rfl, .inl rfl⟩
  · have e : s = 4 := h1
    subst e; exact ⟨.inl rfl, .inr rfl⟩
  · have e : s = 60 := h1
    subst e; exact ⟨.inr rfl, .inl rfl⟩
  · have e : s = 60 := h1
    subst e; exact ⟨.inr rfl, .inr rfl⟩
theorem goalsL_range (P : Nat → Int) (s : Nat) : ∀ x ∈ goalsL P s, 0 ≤ x ∧ x < 64 := fun x hx => by
  have hf : ∀ x ∈ freeL P (s : Int), 0 ≤ x ∧ x < 64 := fun x hx => fromL_range P s x (List.mem_filter.1 hx).1
  unfold goalsL at hx
  split at hx
  · rcases List.mem_append.1 hx with h | h
    · exact upW_range P _ _ _ x h
    · exact fromL_range P s x (List.mem_filter.1 h).1
  · split at hx
    · rcases List.mem_append.1 hx with h | h
      · exact hf x h
      · obtain ⟨j, hj, hc, rfl⟩ := castlesL_mem P s 4 x h
        obtain ⟨h1, h2⟩ := cst_to P s j hj hc
        rcases h1 with h1 | h1 <;> rcases h2 with h2 | h2 <;> rw [h2] <;> omega
    · exact hf x hx
theorem risen_mem (xs : List Int) (x : Int) : x ∈ risen xs ↔ x ∈ xs := by unfold risen; exact List.mem_mergeSort
theorem movesL_len (P : Nat → Int) (s : Nat) : (movesL P s).length ≤ 280 := by
  have h1 := putL_len P s (risen (goalsL P s))
  have h2 := goalsL_len P s
  rw [risen_len] at h1
  unfold movesL
  omega
set_option maxHeartbeats 1000000 in
theorem mMoves_any (B b : Nat) (P : Nat → Int) (s : Nat) (hs : s < 64) (w : World) (hp : PB w b P) (hg : GS B w) (hm : GM B w) (hB : B ≤ w.heap.size) :
    Calls Tryz.prog 134 #[.pointer (some ⟨b, 0, none⟩), .int .i64 (s : Int)] w fun e w' => ∃ v, e = .returned v ∧ Below w.heap.size w w' ∧ w'.ownsRow w.heap.size 46 3 v (movesL P s).length (mvals (movesL P s)) := by
  have HI := Lib.hid (MV.begin hp hg hm hB)
  have M1 := Lib.hid (fun W h1 h2 h3 h4 => goals_any B b P s hs W h1 h2 h3 h4)
  have M2 := Lib.hid (fun base v W h1 h2 => sort_own (goalsL P s) (by have := goalsL_len P s; omega) base v W h1 h2)
  have M3 := Lib.hid (fun p c W h1 h2 h3 h4 h5 => put_any B b P s hs (risen (goalsL P s)) (fun x hx => goalsL_range P s x ((risen_mem _ x).1 hx)) (by rw [risen_len]; have := goalsL_len P s; omega) p c W h1 h2 h3 h4 h5)
  have HML := Lib.hid (show movesL P s = putL P s (risen (goalsL P s)) from rfl)
  rw [HML.out]
  generalize putL P s (risen (goalsL P s)) = R at *
  clear HML
  have hrl := risen_len (goalsL P s)
  generalize risen (goalsL P s) = G2 at *
  generalize goalsL P s = G at *
  have HRL := Lib.hid hrl
  clear hp hg hm hB hrl
  go_enter Tryz.func134, Tryz.ntmps134
  go_wp2_with fail
  refine (M1.out _ HI.out.p HI.out.g HI.out.m HI.out.s).mono ?_
  rintro e w1 ⟨v, rfl, hb, hown⟩
  replace HI := Lib.hid (HI.out.go hb)
  have HO := Lib.hid hown
  clear hb hown M1
  go_wp2_with fail
  refine (M2.out _ v _ HI.out.bel.size HO.out).mono ?_
  rintro e w2 ⟨rfl, hb, hown⟩
  replace HI := Lib.hid (HI.out.go2 hb)
  rw [ivals_range] at hown
  obtain ⟨pa, ca, rfl, hr, _⟩ := sq_reads hown
  have HR := Lib.hid hr
  clear hb hown M2 hr HO
  go_wp2_with fail
  refine (M3.out pa ca _ HI.out.p HI.out.g HI.out.m HI.out.s HR.out).mono ?_
  rintro e w3 ⟨v3, rfl, hb, hown⟩
  have HB := Lib.hid (HI.out.bel.trans (hb.mono HI.out.bel.size))
  have HO3 := Lib.hid (owns_below' hown HI.out.bel.size)
  clear hb hown M3
  go_wp2
  go_ret
  exact ⟨v3, rfl, HB.out, HO3.out⟩
theorem infoMover : (Tryz.prog.info? 153).map (·.size) = some 133 := by kernel_rfl
theorem zeroMover : Tryz.zeroCells153 = (pc fun _ => 0).toArray := by kernel_rfl
theorem fold_mov (X : Array Value) (hX : X.size = 133) : Array.foldl (fun (cs : Array Value) (x : Value × Nat) => cs.setIfInBounds x.2 x.1) Tryz.zeroCells153 X.zipIdx 0 133 = X := by
  apply Array.ext_getElem?
  intro i
  have hz : Tryz.zeroCells153.size = 133 := by rw [zeroMover, pc_size]
  rw [show (133 : Nat) = X.zipIdx.size by simp [hX], ← Array.foldl_toList]
  rw [Array.toList_zipIdx, fold_setF X.toList 0 _ (by simp [hX, hz]) i]
  by_cases h : i < 133
  · rw [if_pos (by simp [hX, h]), Nat.sub_zero, Array.getElem?_toList]
  · rw [if_neg (by simp [hX]; omega), Array.getElem?_eq_none (by omega), Array.getElem?_eq_none (by omega)]
/-- the moves from a square -/
def fromM (P : Nat → Int) (s : Int) : List (Int × Int × Int) := if sq s && ownB P s.toNat then movesL P s.toNat else []
set_option maxHeartbeats 1000000 in
theorem mFrom_any (P : Nat → Int) (s : Int) (w : World) (B : Nat) (hg : GS B w) (hm : GM B w) (hB : B ≤ w.heap.size) :
    Calls Tryz.prog 105 #[.agg (pc P).toArray, .int .i64 s] w fun e w' => ∃ v, e = .returned v ∧ Below w.heap.size w w' ∧ w'.ownsRow w.heap.size 46 3 v (fromM P s).length (mvals (fromM P s)) := by
  obtain ⟨X, hX⟩ : ∃ X, X = (pc P).toArray := ⟨_, rfl⟩
  rw [← hX]
  have HP00 := Lib.hid (pos_box P w X hX 29)
  have HG := Lib.hid hg
  have HM := Lib.hid hm
  have HX := Lib.hid hX
  have hsz : X.size = 133 := by rw [hX, pc_size]
  have hfold := fold_mov X hsz
  have HBW0 := Lib.hid (below_new (w := w) (.cells X 29))
  clear hX hg hm
  go_enter Tryz.func105, Tryz.ntmps105
  go_upto_region 1 with (fail)
  generalize w.alloc (.cells X 29) = W0 at *
  refine wp_region_lit ?_
  refine wpList_pos (by rfl) _ (by rfl) w.heap.size P X HX.out (by rfl) HP00.out ?_
  refine wpList_plain rfl (fun K hK => ?_)
  go_simp
  refine hK _ _ ?_
  clear hK K
  clear hfold
  refine wpList_plain rfl (fun K hK => ?_)
  go_simp
  refine hK _ _ ?_
  clear hK K
  have hpn : PB (W0.alloc (.cells Tryz.zeroCells153 153)) W0.heap.size (fun _ => 0) := by rw [zeroMover]; exact PB.new rfl
  refine wpList_store_mid rfl 153 _ _ rfl W0.heap.size 0 X rfl rfl (by rw [hsz]; exact hpn.there) (by rw [infoMover, hsz]) (by rw [HX.out]; exact pc_one P) ?_
  refine forgetL_B (fun W => PB W W0.heap.size P ∧ Below W0.heap.size W0 W) (by
    rw [HX.out, List.toList_toArray]
    exact ⟨hpn.store (Q := P), below_store (b := W0.heap.size) P (below_new _) (Nat.le_refl _) (by simp)⟩) ?_
  rintro W ⟨hp, hb⟩
  have HB := Lib.hid (HBW0.out.trans (hb.mono HBW0.out.size))
  have HI := Lib.hid (MV.begin hp (((HG.out.below (HB.out.mono hB)))) ((HM.out.below (HB.out.mono hB))) (Nat.le_trans hB HB.out.size))
  clear hp hb hpn HP00 hsz HBW0
  obtain ⟨fb, hfb⟩ : ∃ f, W0.heap.size = f := ⟨_, rfl⟩
  rw [hfb] at HI
  simp only [hfb]
  show Exit.then _ _ Exit.normal _ _
  clear hfb
  cases hs : sq s
  · have HF := Lib.hid (show fromM P s = [] by unfold fromM; rw [hs]; rfl)
    have HSQ := Lib.hid hs
    clear hs
    go_wp2_with fail
    refine (is_any s _).mono ?_
    rw [HSQ.out]
    rintro e w1 ⟨rfl, hb1⟩
    replace HI := Lib.hid (HI.out.go hb1)
    clear hb1
    go_wp2
    go_ret
    exact ⟨.slice none 0 0, rfl, HB.out.trans (HI.out.bel.mono HB.out.size), by rw [HF.out]; exact World.ownsRow_nil _ _ _ _⟩
  · obtain ⟨s0, s1⟩ := (sq_iff s).1 hs
    obtain ⟨n, rfl⟩ := Int.eq_ofNat_of_zero_le s0
    have hn64 : n < 64 := by omega
    have HSQ := Lib.hid hs
    have hfm : fromM P (n : Int) = if ownB P n then movesL P n else [] := by unfold fromM; rw [hs, Int.toNat_natCast, Bool.true_and]
    have MM := Lib.hid (fun b W h => mayMove_any b P n hn64 W h)
    have MV' := Lib.hid (fun b W h1 h2 h3 h4 => mMoves_any B b P n hn64 W h1 h2 h3 h4)
    obtain ⟨ob, hob⟩ : ∃ x, ownB P n = x := ⟨_, rfl⟩
    rw [hob] at MM hfm
    generalize movesL P n = R at *
    clear hs hob
    cases ob
    · simp only [Bool.false_eq_true, if_false] at hfm
      have HF := Lib.hid hfm
      clear hfm
      go_wp2_with fail
      refine (is_any (n : Int) _).mono ?_
      rw [HSQ.out]
      rintro e w1 ⟨rfl, hb1⟩
      replace HI := Lib.hid (HI.out.go hb1)
      clear hb1
      go_wp2_with fail
      refine (MM.out _ _ HI.out.p).mono ?_
      rintro e w2 ⟨rfl, hb1⟩
      replace HI := Lib.hid (HI.out.go hb1)
      clear hb1
      go_wp2
      go_ret
      exact ⟨.slice none 0 0, rfl, HB.out.trans (HI.out.bel.mono HB.out.size), by rw [HF.out]; exact World.ownsRow_nil _ _ _ _⟩
    · simp only [if_true] at hfm
      have HF := Lib.hid hfm
      clear hfm
      go_wp2_with fail
      refine (is_any (n : Int) _).mono ?_
      rw [HSQ.out]
      rintro e w1 ⟨rfl, hb1⟩
      replace HI := Lib.hid (HI.out.go hb1)
      clear hb1
      go_wp2_with fail
      refine (MM.out _ _ HI.out.p).mono ?_
      rintro e w2 ⟨rfl, hb1⟩
      replace HI := Lib.hid (HI.out.go hb1)
      clear hb1
      go_wp2_with fail
      refine (MV'.out _ _ HI.out.p HI.out.g HI.out.m HI.out.s).mono ?_
      rintro e w3 ⟨v, rfl, hb1, hown⟩
      have HB2 := Lib.hid (HB.out.trans ((HI.out.bel.trans (hb1.mono HI.out.bel.size)).mono HB.out.size))
      have HO := Lib.hid (owns_below' hown (Nat.le_trans HB.out.size HI.out.bel.size))
      clear hb1 hown
      go_wp2
      go_ret
      exact ⟨v, rfl, HB2.out, by rw [HF.out]; exact HO.out⟩
end Go.Proofs.YtkncfeijlmomaaaGreatDoor

namespace Go.Proofs.YtkncfeijlmomaaaGreatDoor
open Go.RowKit Go.Sort
set_option linter.unusedSimpArgs false
set_option linter.unusedVariables false
set_option maxRecDepth 20000
attribute [local go_sem] Oper.semAt_some

/-- what the iterator reads -/
structure MO2 (b mb : Nat) (P : Nat → Int) (W : World) : Prop where
  m : W.heap[mb]? = some (.cells #[.pointer (some ⟨b, 0, none⟩)] 168 (0, 0))
  p : PB W b P
def MN2 (b mb : Nat) (q : Nat) : Prop := q = b ∨ q = mb
theorem MO2.same {b mb : Nat} {P : Nat → Int} {A B : World} (h : MO2 b mb P A) (hs : A.heap.size ≤ B.heap.size) (hx : ∀ k, MN2 b mb k → B.heap[k]? = A.heap[k]?) : MO2 b mb P B :=
  ⟨(hx _ (.inr rfl)).trans h.m, h.p.same hs (hx _ (.inl rfl))⟩
theorem MO2.lt {b mb : Nat} {P : Nat → Int} {A : World} (h : MO2 b mb P A) : ∀ k, MN2 b mb k → k < A.heap.size := by
  rintro q (rfl | rfl)
  · exact h.p.lt
  · exact al_lt h.m
theorem MO2.reads (b mb : Nat) (P : Nat → Int) : ∀ Y A B, MO2 b mb P A → (∀ q, Y q → ¬ MN2 b mb q) → Turns Y A B → MO2 b mb P B := fun Y A B h hx ht =>
  h.same ht.size fun k hk => ht.block k (h.lt k hk) (fun e => hx k e hk)
theorem MO2.go {b mb : Nat} {P : Nat → Int} {A B : World} (h : MO2 b mb P A) (g : Below A.heap.size A B) : MO2 b mb P B := h.same g.size fun k hk => g.block k (h.lt k hk)
theorem upList_pre (q : Nat → Bool) {n m : Nat} (h : n ≤ m) : upList q n <+: upList q m := by
  induction m with
  | zero => obtain rfl : n = 0 := by omega
            exact List.prefix_refl _
  | succ m ih =>
    rcases (show n ≤ m ∨ n = m + 1 by omega) with h1 | rfl
    · rw [upList_succ]; exact (ih h1).trans (List.prefix_append _ _)
    · exact List.prefix_refl _
set_option maxHeartbeats 2000000 in
set_option maxRecDepth 100000 in
theorem movers_comes (b mb : Nat) (P : Nat → Int) (w : World) (har : MO2 b mb P w) :
    Comes Tryz.prog 156 #[.pointer (some ⟨mb, 0, none⟩)] (MN2 b mb) (Value.int .i64) (upList (ownB P) 64) w := by
  refine ⟨har.lt, fun l J Jx X W hW hXN hJ hJx hlt hY h0 => ?_⟩
  have HA := Lib.hid (har.go hW)
  have HJ := Lib.hid hJ
  have HJX := Lib.hid hJx
  have HLT := Lib.hid hlt
  have HY := Lib.hid hY
  have HR := Lib.hid (MO2.reads b mb P)
  have HK := Lib.hid (show Keep J (MO2 b mb P) (MN2 b mb) [] [] X W from ⟨h0, HA.out, fun p hp => (by cases hp), fun q hq => ⟨hXN q hq, fun p hp => (by cases hp)⟩⟩)
  have HS := Lib.hid (upList_succ (ownB P))
  have MM := Lib.hid (fun (n : Nat) (hn : n < 64) W h => mayMove_any b P n hn W h)
  clear har hW hXN hJ hJx hlt hY h0 HA
  go_enter Tryz.func156, Tryz.ntmps156
  go_wp2
  go_loopw [4] (fun i wr => ∃ (m : Nat) (Y : Nat → Prop), m ≤ 64 ∧ i = .int .i64 (m : Int) ∧ Keep J (MO2 b mb P) (MN2 b mb) [] (upList (ownB P) m) Y wr) (fun i _ => 64 - (intOf i).toNat)
  case atStart => exact ⟨0, _, Nat.zero_le _, rfl, HK.out⟩
  case round =>
    clear HK
    obtain ⟨m, Y, hm, rfl, hk⟩ := hrel
    have HK := Lib.hid hk
    clear hk
    by_cases hlt : m < 64
    · have hs := HS.out m
      have HM := Lib.hid (MM.out m hlt)
      have HPF := Lib.hid (show ownB P m = true → upList (ownB P) m ++ [(m : Int)] <+: upList (ownB P) 64 from fun h => by
        have h1 := upList_pre (ownB P) (show m + 1 ≤ 64 by omega)
        rw [upList_succ, h, if_pos rfl] at h1
        exact h1)
      obtain ⟨ob, hob⟩ : ∃ x, ownB P m = x := ⟨_, rfl⟩
      rw [hob] at hs HM HPF
      have HSS := Lib.hid hs
      obtain ⟨c0, cf, _⟩ := row1 HK.out.r.m
      clear hs hob
      go_upto_region 3 with (fail)
      refine (wpIn_wide (n := 0)).1 ?_
      gi_wp2
      refine ⟨trivial, rfl, callsIn_wide.2 ((HM.out _ HK.out.r.p).mono ?_)⟩
      rintro e w3 ⟨rfl, hb⟩
      replace HK := Lib.hid (HK.out.go HR.out HJ.out hb)
      clear hb c0 cf HM
      have i0 : (0 : Int) ≤ (m : Int) := by omega
      have i1 : (m : Int) < 64 := by omega
      cases ob
      · gi_wp2
        refine ⟨fun _ _ => trivial, ?_⟩
        gi_wp2
        go_wp2
        go_roundw
        case rel => exact ⟨m + 1, Y, by omega, by go_num, by rw [HSS.out]; simpa using HK.out⟩
        case measure => simp [intOf]; omega
      · obtain ⟨fn, tmps, assign, body, hy, hR8⟩ := HY.out _ (m : Int) Y w3 HK.out.j (HPF.out rfl)
        gi_wp2
        refine ⟨rfl, (roundIn_wide hR8).mono ?_⟩
        clear hR8 hy
        rintro e B ⟨Z2, hT, hZ2, (⟨rfl, hJB⟩ | ⟨rfl, hJB⟩)⟩
        · have HK6 := Lib.hid (HK.out.turn HR.out HK.out.r.lt hT hZ2 hJB)
          clear hT hZ2 hJB HK
          gi_wp2
          go_wp2
          go_roundw
          case rel => exact ⟨m + 1, Z2, by omega, by go_num, by rw [HSS.out]; exact HK6.out⟩
          case measure => simp [intOf]; omega
        · gi_wp2
          go_wp2
          refine bodyPost_ret (results_none rfl _ _ _) rfl ?_
          exact ⟨⟨_, rfl⟩, Z2, .inr ⟨_, HPF.out (by trivial), hJB⟩⟩
    · obtain rfl : m = 64 := by omega
      rw [show ((64 : Nat) : Int) = 64 from rfl]
      go_wp2
      go_end0
      exact ⟨⟨_, rfl⟩, Y, .inl HK.out.j⟩
end Go.Proofs.YtkncfeijlmomaaaGreatDoor

namespace Go.Proofs.YtkncfeijlmomaaaGreatDoor
open Go.RowKit Go.Sort
set_option linter.unusedSimpArgs false
set_option linter.unusedVariables false
set_option maxRecDepth 20000
attribute [local go_sem] Oper.semAt_some

theorem movers_any (b : Nat) (w : World) :
    Calls Tryz.prog 133 #[.pointer (some ⟨b, 0, none⟩)] w fun e w' =>
      e = .returned (.func (.func 156) #[] #[.pointer (some ⟨w.heap.size, 0, none⟩)]) ∧ w' = w.alloc (.cells #[.pointer (some ⟨b, 0, none⟩)] 168) := by
  go_enter Tryz.func133, Tryz.ntmps133
  go_wp2
  go_ret
  exact ⟨rfl, rfl⟩
theorem run_append_rows {P : Program} (w : World) (base base2 : Nat) (t ty e : TypeId) (i : TypeInfo) (z : Value) (size bytes : Nat) (ht : P.underlying t = some (.slice e)) (hi : P.info? e = some i) (hz : i.zero = some z)
    (hsize : i.size = size) (hby : i.bytes = bytes) (hzs : z.cells.size = size) (hsz : 0 < size)
    (v : Value) (n : Nat) (xs : List Value) (hown : w.ownsRow base e size v n xs) (v2 : Value) (m : Nat) (ys : List Value) (hown2 : w.ownsRow base2 e size v2 m ys) (h1 : ∀ u ∈ ys, u.oneCell' = true)
    (h63 : n + m ≤ maxLen) (hbytes : (n + m) * bytes ≤ 140737488355328) (hbase : base ≤ w.heap.size) :
    ∃ v' w', (Builtin.append_ #[t, t] ty #[v, v2]).run P w = .ok v' w' ∧ w'.ownsRow base e size v' (n + m) (xs ++ ys) ∧ w.grownBy w' v.ownBlock ∧ (v'.ownBlock = v.ownBlock ∨ v'.ownBlock = some w.heap.size) := by
  rcases hown2.2 with ⟨rfl, rfl⟩ | ⟨g, cap, cur, rfl, _⟩
  · have hy : ys = [] := List.eq_nil_of_length_eq_zero (by simpa using hown2.1)
    subst hy
    exact ⟨v, w, run_append_owned_none (P := P) (w := w) base t ty e i size ht hi v n xs hown, by simpa using hown, World.grownBy.refl _ _, .inl rfl⟩
  · obtain ⟨v', w', h2, h3, h4, _, h5⟩ := run_append_own_at (P := P) w base t ty e i z size bytes ht hi hz hsize hby hzs hsz v n xs hown ⟨g, 0, none⟩ m cap ys hown2.1 (hown2.cells rfl) h1 h63 hbytes hbase
    exact ⟨v', w', h2, h3, h4, h5⟩
theorem owns_slice {w : World} {base : Nat} {e : TypeId} {k : Nat} {v : Value} {n : Nat} {xs : List Value} (h : w.ownsRow base e k v n xs) : ∃ p m c, v = .slice p m c := by
  rcases h.2 with ⟨rfl, _⟩ | ⟨g, cap, cur, rfl, _⟩
  · exact ⟨_, _, _, rfl⟩
  · exact ⟨_, _, _, rfl⟩
theorem stepIn_append_run {F : Fence} {n : Nat} {P : Program} {w : World} {o : Oper} {a : Act} {K : Act → World → Prop} {Q : Exit → Act → World → Prop} {E : Prop} {ys : Nat → Option Bool}
    (hg : o.guard = none) (s x : Operand) (t : TypeId) (hop : o.op = Op.call { callee := Callee.builtin Builtin.append, args := #[s, x], argTypes := #[t, t] })
    (sv xv : Value) (hs : a.eval s = sv) (hx : a.eval x = xv) {v' : Value} {w' : World} (hrun : (Builtin.append_ #[t, t] o.type #[sv, xv]).run P w = .ok v' w') (hK : K (a.put o.dst v') w') :
    if Region.wanted o ys = true then o.wpIn F n P a w K Q else E := by
  rw [if_pos (by simp [Region.wanted, hg])]
  unfold Oper.wpIn
  refine ⟨?_, ?_⟩
  · simp [Oper.about, hop, resolve, Target.leads, Sem.run_pure]
  · rw [Oper.semAt_plain F _ _ (by rw [hop]; intro c hc'; cases hc')]
    simp [execOp, hop, resolve, invoke, builtin, hs, hx, hrun, Result.andThen]
    exact hK
/-- the moves of some squares' pieces -/
def flatM (P : Nat → Int) (l : List Int) : List (Int × Int × Int) := l.flatMap fun x => movesL P x.toNat
def allM (P : Nat → Int) : List (Int × Int × Int) := flatM P (upList (ownB P) 64)
theorem flatM_len (P : Nat → Int) (l : List Int) : (flatM P l).length ≤ 280 * l.length := by
  induction l with
  | nil => simp [flatM]
  | cons a l ih =>
    unfold flatM at ih ⊢
    rw [List.flatMap_cons, List.length_append]
    have := movesL_len P a.toNat
    rw [List.length_cons]; omega
/-- what stands while moves are gathered -/
structure ApM (P : Nat → Int) (w : World) (pre : List Int) (X : Nat → Prop) (W : World) : Prop where
  below : Below w.heap.size w W
  box : ∃ v, W.heap[w.heap.size]? = some (.cells #[v] 42 (0, 0)) ∧ W.ownsRow w.heap.size 46 3 v (flatM P pre).length (mvals (flatM P pre)) ∧ ∀ k, X k ↔ k = w.heap.size ∨ v.ownBlock = some k
theorem ApM.lt {P : Nat → Int} {w : World} {pre : List Int} {X : Nat → Prop} {W : World} (h : ApM P w pre X W) : ∀ k, X k → k < W.heap.size := by
  obtain ⟨v, hv, hr, hx⟩ := h.box
  intro k hk
  rcases (hx k).1 hk with rfl | h1
  · exact (Array.getElem?_eq_some_iff.1 hv).1
  · exact (hr.lt k h1).2
theorem ApM.spare {P : Nat → Int} {w : World} {pre : List Int} {X : Nat → Prop} {A B : World} {n : Nat} (h : ApM P w pre X A) (hn : w.heap.size ≤ n) (hs : Spares n X A B) : ApM P w pre X B := by
  obtain ⟨v, hv, hr, hx⟩ := h.box
  refine ⟨h.below.trans (hs.below h.below.size hn), v, (hs.block _ (Array.getElem?_eq_some_iff.1 hv).1 (.inr ((hx _).2 (.inl rfl)))).trans hv, owns_same hr fun g hg hl => hs.block g hl (.inr ((hx g).2 (.inr hg))), hx⟩
set_option maxHeartbeats 2000000 in
set_option maxRecDepth 100000 in
theorem all_any (P : Nat → Int) (w : World) (B : Nat) (hg : GS B w) (hm : GM B w) (hB : B ≤ w.heap.size) :
    Calls Tryz.prog 102 #[.agg (pc P).toArray] w fun e w' => ∃ v, e = .returned v ∧ Below w.heap.size w w' ∧ w'.ownsRow w.heap.size 46 3 v (allM P).length (mvals (allM P)) := by
  obtain ⟨i1, hi1, hk⟩ : ∃ i, Tryz.prog.info? 46 = some i ∧ (i.zero, i.size, i.bytes) = (some (.agg #[.int .i64 0, .int .i64 0, .int .i64 0]), 3, 24) := by
    have h : (Tryz.prog.info? 46).map (fun i => (i.zero, i.size, i.bytes)) = some (some (.agg #[.int .i64 0, .int .i64 0, .int .i64 0]), 3, 24) := by kernel_rfl
    exact Option.map_eq_some_iff.1 h
  simp only [Prod.mk.injEq] at hk
  obtain ⟨hk0, hk1, hk2⟩ := hk
  obtain ⟨X, hX⟩ : ∃ X, X = (pc P).toArray := ⟨_, rfl⟩
  rw [← hX]
  have HP00 := Lib.hid (pos_box P w X hX 29)
  have HG := Lib.hid hg
  have HM := Lib.hid hm
  have HX := Lib.hid hX
  have hsz : X.size = 133 := by rw [hX, pc_size]
  have hfold := fold_mov X hsz
  have HBW0 := Lib.hid (below_new (w := w) (.cells X 29))
  clear hX hg hm
  refine calls_of_marks Tryz.func102 rfl ?_
  simp only [Tryz.ntmps102, List.size_toArray, List.length_cons, List.length_nil, Nat.reduceAdd, Nat.reduceSub, Array.replicate_succ, Array.replicate_zero, List.push_toArray, List.append_toArray, List.nil_append, List.cons_append]
  go_upto_region 1 with (fail)
  generalize w.alloc (.cells X 29) = W0 at *
  refine wp_region_lit ?_
  refine wpList_pos (by rfl) _ (by rfl) w.heap.size P X HX.out (by rfl) HP00.out ?_
  refine wpList_plain rfl (fun K hK => ?_)
  go_simp
  refine hK _ _ ?_
  clear hK K
  clear hfold
  refine wpList_plain rfl (fun K hK => ?_)
  go_simp
  refine hK _ _ ?_
  clear hK K
  have hpn : PB (W0.alloc (.cells Tryz.zeroCells153 153)) W0.heap.size (fun _ => 0) := by rw [zeroMover]; exact PB.new rfl
  refine wpList_store_mid rfl 153 _ _ rfl W0.heap.size 0 X rfl rfl (by rw [hsz]; exact hpn.there) (by rw [infoMover, hsz]) (by rw [HX.out]; exact pc_one P) ?_
  refine forgetL_B (fun W => PB W W0.heap.size P ∧ Below W0.heap.size W0 W) (by
    rw [HX.out, List.toList_toArray]
    exact ⟨hpn.store (Q := P), below_store (b := W0.heap.size) P (below_new _) (Nat.le_refl _) (by simp)⟩) ?_
  rintro W2 ⟨hp, hb⟩
  have HB := Lib.hid (HBW0.out.trans (hb.mono HBW0.out.size))
  have HI := Lib.hid (MV.begin hp (((HG.out.below (HB.out.mono hB)))) ((HM.out.below (HB.out.mono hB))) (Nat.le_trans hB HB.out.size))
  clear hp hb hpn HP00 hsz HBW0
  obtain ⟨fb, hfb⟩ : ∃ f, W0.heap.size = f := ⟨_, rfl⟩
  rw [hfb] at HI
  simp only [hfb]
  show Exit.then _ _ Exit.normal _ _
  clear hfb
  have MVR := Lib.hid (movers_any fb)
  go_wp2_with fail
  refine (MVR.out _).mono ?_
  rintro e w4 ⟨rfl, rfl⟩
  have har : MO2 fb (W2.heap.size + 1) P ((W2.alloc (.cells #[.slice none 0 0] 42)).alloc (.cells #[.pointer (some ⟨fb, 0, none⟩)] 168)) := ⟨sl_at (by simp), (HI.out.p.alloc _).alloc _⟩
  have HAR := Lib.hid har
  have HAB := Lib.hid (show fb < W2.heap.size from HI.out.l)
  have HW4 := Lib.hid (((below_new (w := W2) (.cells #[.slice none 0 0] 42))).alloc (by simp) (.cells #[.pointer (some ⟨fb, 0, none⟩)] 168))
  have HV4 := Lib.hid (show ((W2.alloc (.cells #[.slice none 0 0] 42)).alloc (.cells #[.pointer (some ⟨fb, 0, none⟩)] 168)).heap[W2.heap.size]? = some (.cells #[.slice none 0 0] 42 (0, 0)) from al_old (sl_at rfl) _)
  have hmb : (W2.alloc (.cells #[.slice none 0 0] 42)).heap.size = W2.heap.size + 1 := by simp
  rw [hmb]
  generalize (W2.alloc (.cells #[.slice none 0 0] 42)).alloc (.cells #[.pointer (some ⟨fb, 0, none⟩)] 168) = W4 at *
  clear hmb har MVR
  go_wp2
  refine wp_range_over (gf := 156) (lb := #[.pointer (some ⟨W2.heap.size + 1, 0, none⟩)]) rfl (enters_of Tryz.func156 (by kernel_rfl) rfl) (movers_comes fb (W2.heap.size + 1) P W4 HAR.out) (Below.refl _ _) rfl (fun pre X W => ApM P W2 pre X W) (fun _ _ _ _ => False)
    (fun s X A B h hs => h.spare HW4.out.size hs) (fun _ _ _ _ _ h _ => h) (fun s X A h => h.lt) (X0 := fun k => k = W2.heap.size) ?start ?disj
    (fun x => { tmps := #[.agg X, .pointer (some ⟨w.heap.size, 0, none⟩), .slice none 0 0, .pointer (some ⟨fb, 0, none⟩), .pointer (some ⟨W2.heap.size, 0, none⟩), .int .i64 x, .agg X, .agg X, .func (.func 156) #[] #[.pointer (some ⟨W2.heap.size + 1, 0, none⟩)], .int .i64 x, undef, undef, undef, undef, undef], defers := [] }) ?assign ?body ?done ?stop
  case start => exact ⟨HW4.out, _, HV4.out, World.ownsRow_nil _ _ _ _, fun k => by simp [Value.ownBlock]⟩
  case disj =>
    rintro k rfl (hk | hk)
    · have := HAB.out; omega
    · omega
  case assign =>
    intro l x W K hK
    gi_wp2
    exact hK
  case body =>
    intro l' pre x X7 W7 h hpre _
    have hxm : x ∈ upList (ownB P) 64 := hpre.subset (by simp)
    obtain ⟨n, hn64, _, rfl⟩ := (upList_mem _ _ _).1 hxm
    have hlp : pre.length ≤ 64 := by
      have h1 := hpre.length_le
      have h2 := upList_len (ownB P) 64
      simp at h1; omega
    obtain ⟨v, hv, hrow, hx⟩ := h.box
    have hfl := flatM_len P pre
    have hml := movesL_len P n
    have HIW := Lib.hid (HI.out.go2 h.below)
    have HNE := Lib.hid (show v.ownBlock ≠ some W2.heap.size from owns_off hrow hv (by decide))
    have HV := Lib.hid hv
    have HROW := Lib.hid hrow
    have HH := Lib.hid h
    have HFIN := Lib.hid (show ∀ (v3 : Value) (W5 W6 : World), Below W7.drew.heap.size W7.drew W5 → W5.heap[W2.heap.size]? = some (.cells #[v] 42 (0, 0)) → W5.ownsRow W2.heap.size 46 3 v (flatM P pre).length (mvals (flatM P pre)) → W6.ownsRow W2.heap.size 46 3 v3 ((flatM P pre).length + (movesL P n).length) (mvals (flatM P pre ++ movesL P n)) → W5.grownBy W6 v.ownBlock → (v3.ownBlock = v.ownBlock ∨ v3.ownBlock = some W5.heap.size) →
        ∃ Y, Turns X7 W7 (W6.setCell ⟨W2.heap.size, 0, none⟩ v3) ∧ (∀ k, Y k → X7 k ∨ W7.heap.size ≤ k) ∧ ApM P W2 (pre ++ [(n : Int)]) Y (W6.setCell ⟨W2.heap.size, 0, none⟩ v3) from fun v3 W5 W6 hd hb5 ho5 ho6 hg hat => by
      have h0 : Below W7.heap.size W7 W7.drew := (Below.refl W7.heap.size W7).drew
      have h70 : Below W7.heap.size W7 W5 := h0.trans (hd.mono h0.size)
      have hv6 : W6.heap[W2.heap.size]? = some (.cells #[v] 42 (0, 0)) := (hg.block _ (al_lt hb5) (fun e => HNE.out e.symm)).trans hb5
      have hne3 : v3.ownBlock ≠ some W2.heap.size := owns_off ho6 hv6 (by decide)
      have hflat : flatM P (pre ++ [(n : Int)]) = flatM P pre ++ movesL P n := by unfold flatM; rw [List.flatMap_append]; simp
      refine ⟨fun k => k = W2.heap.size ∨ v3.ownBlock = some k, ?_, ?_, ?_, ?_⟩
      · refine ⟨hg.os.trans h70.os, hg.tape.trans h70.tape, hg.output.trans h70.output, by rw [World.size_setCell]; exact Nat.le_trans h70.size hg.size, fun k hk hn => ?_⟩
        rw [Below.heap_setCell _ _ _ k (fun e => hn ((hx k).2 (.inl e)))]
        exact (hg.block k (Nat.lt_of_lt_of_le hk h70.size) (fun e => hn ((hx k).2 (.inr e.symm)))).trans (h70.block k hk)
      · rintro k (rfl | hk)
        · exact .inl ((hx _).2 (.inl rfl))
        · rcases hat with h1 | h1
          · exact .inl ((hx _).2 (.inr (h1.symm.trans hk)))
          · right
            rw [h1] at hk
            cases hk
            exact h70.size
      · have hb1 : Below W2.heap.size W2 W6 := (h.below.trans (h70.mono h.below.size)).grown hg (Nat.le_trans h.below.size h70.size) (fun k e => (hrow.lt k e).1)
        exact hb1.setCell (p := ⟨W2.heap.size, 0, none⟩) (Nat.le_refl _) _
      · refine ⟨v3, Go.heap_setCell_same W6 W2.heap.size 0 _ _ _ hv6, ?_, fun k => Iff.rfl⟩
        rw [hflat, List.length_append]
        exact owns_same ho6 fun g hgg hl => Below.heap_setCell _ _ _ g (fun e => by rw [e] at hgg; exact hne3 hgg))
    clear h hpre hxm hx hv hrow
    gi_wp2
    refine wpIn_region_any (by kernel_rfl) ?_
    have HD0 := Lib.hid (Below.refl W7.heap.size W7).drew
    have HBOX := Lib.hid (show W7.drew.heap[W2.heap.size]? = some (.cells #[v] 42 (0, 0)) from HV.out)
    have HOW := Lib.hid (show W7.drew.ownsRow W2.heap.size 46 3 v (flatM P pre).length (mvals (flatM P pre)) from HROW.out)
    have HMV := Lib.hid (mMoves_any B fb P n hn64 W7.drew (HIW.out.go (Below.refl _ _).drew).p (HIW.out.go (Below.refl _ _).drew).g (HIW.out.go (Below.refl _ _).drew).m (HIW.out.go (Below.refl _ _).drew).s)
    have hc : W7.drew.cell? ⟨W2.heap.size, 0, none⟩ = some v := by rw [cell_of_row W7.drew _ 0 _ _ (0, 0) HBOX.out]; rfl
    show wpAnyIn _ _ _ _ _ _ 5 #[false, false, false, false, false] _ W7.drew
    refine wpAnyIn_ready (rs := [0, 1]) (by kernel_rfl) (by simp) (AllReadyIn.cons rfl (fun K hK => ?_) (AllReadyIn.cons rfl (fun K hK => ?_) AllReadyIn.nil))
    · skip
      go_simp
      (try refine ⟨fun _ _ => trivial, ?_⟩)
      refine hK _ _ ?_
      clear hK K
      refine wpAnyIn_ready (rs := [1]) (by kernel_rfl) (by simp) (AllReadyIn.cons rfl (fun K hK => ?_) AllReadyIn.nil)
      go_simp
      (try refine ⟨fun _ _ => trivial, ?_⟩)
      refine hK _ _ ?_
      clear hK K
      refine wpAnyIn_ready (rs := [2]) (by kernel_rfl) (by simp) (AllReadyIn.cons rfl (fun K hK => ?_) AllReadyIn.nil)
      go_simp
      refine ⟨trivial, rfl, CallsIn.inRound l' (callsIn_wide.2 (HMV.out.mono ?_))⟩
      rintro e W5 ⟨v2, rfl, hb, hown2⟩
      have HD := Lib.hid hb
      have HO2 := Lib.hid hown2
      have HO := Lib.hid (owns_go HOW.out hb)
      have HBX := Lib.hid (sl_go HBOX.out hb)
      dsimp only
      clear hb hown2 hc
      have hc : W5.cell? ⟨W2.heap.size, 0, none⟩ = some v := by rw [cell_of_row W5 _ 0 _ _ (0, 0) HBX.out]; rfl
      refine hK _ _ ?_
      clear hK K
      refine wpAnyIn_ready (rs := [3]) (by kernel_rfl) (by simp) (AllReadyIn.cons rfl (fun K hK => ?_) AllReadyIn.nil)
      obtain ⟨v3, W6, hap, hown3, hgr, hat⟩ := run_append_rows (P := Tryz.prog) W5 W2.heap.size W7.heap.size 42 42 46 i1 (.agg #[.int .i64 0, .int .i64 0, .int .i64 0]) 3 24 Tryz.underlying42 hi1 hk0 hk1 hk2 rfl (by decide) v (flatM P pre).length (mvals (flatM P pre)) HO.out v2 (movesL P n).length (mvals (movesL P n)) HO2.out (mvals_one _) (by unfold maxLen; omega) (by omega) (Nat.le_trans HH.out.below.size (Nat.le_trans HD0.out.size HD.out.size))
      refine stepIn_append_run rfl (.tmp 10) (.tmp 12) 42 rfl v v2 (by rfl) (by rfl) hap (hK _ _ ?_)
      clear hK K hap
      rw [mvals_app] at hown3
      obtain ⟨p3, n3, c3, rfl⟩ := owns_slice hown3
      have hv3 : W6.heap[W2.heap.size]? = some (.cells #[v] 42 (0, 0)) := (hgr.block _ (al_lt HBX.out) (fun e => HNE.out e.symm)).trans HBX.out
      clear hc
      have hc : W6.cell? ⟨W2.heap.size, 0, none⟩ = some v := by rw [cell_of_row W6 _ 0 _ _ (0, 0) hv3]; rfl
      have hf : W6.frozen? ⟨W2.heap.size, 0, none⟩ = false := frozen_of_row W6 _ 0 _ _ hv3
      have HV3 := Lib.hid hv3
      have HO3 := Lib.hid hown3
      have HGR := Lib.hid hgr
      have HAT := Lib.hid hat
      clear hv3 hown3 hgr hat
      refine wpAnyIn_ready (rs := [4]) (by kernel_rfl) (by simp) (AllReadyIn.cons rfl (fun K hK => ?_) AllReadyIn.nil)
      go_simp
      (try refine ⟨fun _ _ => trivial, ?_⟩)
      refine hK _ _ ?_
      clear hK K
      refine wpAnyIn_done (by kernel_rfl) ?_ _
      gi_wp2
      exact HFIN.out (.slice p3 n3 c3) W5 W6 HD.out HBX.out HO.out HO3.out HGR.out HAT.out
    · skip
      go_simp
      (try refine ⟨fun _ _ => trivial, ?_⟩)
      refine hK _ _ ?_
      clear hK K
      refine wpAnyIn_ready (rs := [0, 2]) (by kernel_rfl) (by simp) (AllReadyIn.cons rfl (fun K hK => ?_) (AllReadyIn.cons rfl (fun K hK => ?_) AllReadyIn.nil))
      · skip
        go_simp
        (try refine ⟨fun _ _ => trivial, ?_⟩)
        refine hK _ _ ?_
        clear hK K
        refine wpAnyIn_ready (rs := [2]) (by kernel_rfl) (by simp) (AllReadyIn.cons rfl (fun K hK => ?_) AllReadyIn.nil)
        go_simp
        refine ⟨trivial, rfl, CallsIn.inRound l' (callsIn_wide.2 (HMV.out.mono ?_))⟩
        rintro e W5 ⟨v2, rfl, hb, hown2⟩
        have HD := Lib.hid hb
        have HO2 := Lib.hid hown2
        have HO := Lib.hid (owns_go HOW.out hb)
        have HBX := Lib.hid (sl_go HBOX.out hb)
        dsimp only
        clear hb hown2 hc
        have hc : W5.cell? ⟨W2.heap.size, 0, none⟩ = some v := by rw [cell_of_row W5 _ 0 _ _ (0, 0) HBX.out]; rfl
        refine hK _ _ ?_
        clear hK K
        refine wpAnyIn_ready (rs := [3]) (by kernel_rfl) (by simp) (AllReadyIn.cons rfl (fun K hK => ?_) AllReadyIn.nil)
        obtain ⟨v3, W6, hap, hown3, hgr, hat⟩ := run_append_rows (P := Tryz.prog) W5 W2.heap.size W7.heap.size 42 42 46 i1 (.agg #[.int .i64 0, .int .i64 0, .int .i64 0]) 3 24 Tryz.underlying42 hi1 hk0 hk1 hk2 rfl (by decide) v (flatM P pre).length (mvals (flatM P pre)) HO.out v2 (movesL P n).length (mvals (movesL P n)) HO2.out (mvals_one _) (by unfold maxLen; omega) (by omega) (Nat.le_trans HH.out.below.size (Nat.le_trans HD0.out.size HD.out.size))
        refine stepIn_append_run rfl (.tmp 10) (.tmp 12) 42 rfl v v2 (by rfl) (by rfl) hap (hK _ _ ?_)
        clear hK K hap
        rw [mvals_app] at hown3
        obtain ⟨p3, n3, c3, rfl⟩ := owns_slice hown3
        have hv3 : W6.heap[W2.heap.size]? = some (.cells #[v] 42 (0, 0)) := (hgr.block _ (al_lt HBX.out) (fun e => HNE.out e.symm)).trans HBX.out
        clear hc
        have hc : W6.cell? ⟨W2.heap.size, 0, none⟩ = some v := by rw [cell_of_row W6 _ 0 _ _ (0, 0) hv3]; rfl
        have hf : W6.frozen? ⟨W2.heap.size, 0, none⟩ = false := frozen_of_row W6 _ 0 _ _ hv3
        have HV3 := Lib.hid hv3
        have HO3 := Lib.hid hown3
        have HGR := Lib.hid hgr
        have HAT := Lib.hid hat
        clear hv3 hown3 hgr hat
        refine wpAnyIn_ready (rs := [4]) (by kernel_rfl) (by simp) (AllReadyIn.cons rfl (fun K hK => ?_) AllReadyIn.nil)
        go_simp
        (try refine ⟨fun _ _ => trivial, ?_⟩)
        refine hK _ _ ?_
        clear hK K
        refine wpAnyIn_done (by kernel_rfl) ?_ _
        gi_wp2
        exact HFIN.out (.slice p3 n3 c3) W5 W6 HD.out HBX.out HO.out HO3.out HGR.out HAT.out
      · skip
        go_simp
        refine ⟨trivial, rfl, CallsIn.inRound l' (callsIn_wide.2 (HMV.out.mono ?_))⟩
        rintro e W5 ⟨v2, rfl, hb, hown2⟩
        have HD := Lib.hid hb
        have HO2 := Lib.hid hown2
        have HO := Lib.hid (owns_go HOW.out hb)
        have HBX := Lib.hid (sl_go HBOX.out hb)
        dsimp only
        clear hb hown2 hc
        have hc : W5.cell? ⟨W2.heap.size, 0, none⟩ = some v := by rw [cell_of_row W5 _ 0 _ _ (0, 0) HBX.out]; rfl
        refine hK _ _ ?_
        clear hK K
        refine wpAnyIn_ready (rs := [0]) (by kernel_rfl) (by simp) (AllReadyIn.cons rfl (fun K hK => ?_) AllReadyIn.nil)
        go_simp
        (try refine ⟨fun _ _ => trivial, ?_⟩)
        refine hK _ _ ?_
        clear hK K
        refine wpAnyIn_ready (rs := [3]) (by kernel_rfl) (by simp) (AllReadyIn.cons rfl (fun K hK => ?_) AllReadyIn.nil)
        obtain ⟨v3, W6, hap, hown3, hgr, hat⟩ := run_append_rows (P := Tryz.prog) W5 W2.heap.size W7.heap.size 42 42 46 i1 (.agg #[.int .i64 0, .int .i64 0, .int .i64 0]) 3 24 Tryz.underlying42 hi1 hk0 hk1 hk2 rfl (by decide) v (flatM P pre).length (mvals (flatM P pre)) HO.out v2 (movesL P n).length (mvals (movesL P n)) HO2.out (mvals_one _) (by unfold maxLen; omega) (by omega) (Nat.le_trans HH.out.below.size (Nat.le_trans HD0.out.size HD.out.size))
        refine stepIn_append_run rfl (.tmp 10) (.tmp 12) 42 rfl v v2 (by rfl) (by rfl) hap (hK _ _ ?_)
        clear hK K hap
        rw [mvals_app] at hown3
        obtain ⟨p3, n3, c3, rfl⟩ := owns_slice hown3
        have hv3 : W6.heap[W2.heap.size]? = some (.cells #[v] 42 (0, 0)) := (hgr.block _ (al_lt HBX.out) (fun e => HNE.out e.symm)).trans HBX.out
        clear hc
        have hc : W6.cell? ⟨W2.heap.size, 0, none⟩ = some v := by rw [cell_of_row W6 _ 0 _ _ (0, 0) hv3]; rfl
        have hf : W6.frozen? ⟨W2.heap.size, 0, none⟩ = false := frozen_of_row W6 _ 0 _ _ hv3
        have HV3 := Lib.hid hv3
        have HO3 := Lib.hid hown3
        have HGR := Lib.hid hgr
        have HAT := Lib.hid hat
        clear hv3 hown3 hgr hat
        refine wpAnyIn_ready (rs := [4]) (by kernel_rfl) (by simp) (AllReadyIn.cons rfl (fun K hK => ?_) AllReadyIn.nil)
        go_simp
        (try refine ⟨fun _ _ => trivial, ?_⟩)
        refine hK _ _ ?_
        clear hK K
        refine wpAnyIn_done (by kernel_rfl) ?_ _
        gi_wp2
        exact HFIN.out (.slice p3 n3 c3) W5 W6 HD.out HBX.out HO.out HO3.out HGR.out HAT.out
  case done =>
    intro Y W h hK _ h2
    obtain ⟨v, hv, hrow, _⟩ := h.box
    have hc : W.cell? ⟨W2.heap.size, 0, none⟩ = some v := by rw [cell_of_row W _ 0 _ _ (0, 0) hv]; rfl
    obtain ⟨v2, hv2, hrow2, _⟩ := h2.box
    have e2 : v2 = v := by
      have h3 := (World.putObj_heap_other (w := W) (o := .deferred none) (k := W2.heap.size) (r := W4.heap.size) (Nat.ne_of_lt (al_lt HV4.out))).trans hv
      rw [h3] at hv2
      simpa using hv2.symm
    subst e2
    have HR := Lib.hid hrow2
    have HBL := Lib.hid (HB.out.trans (h2.below.mono HB.out.size))
    clear hv hrow h2 h hv2 hrow2
    go_wp2
    refine ⟨by simp, .inl ⟨_, _, rfl, run_takeDeferred hK, ?_⟩⟩
    refine ⟨_, results_tmp rfl _ _ _, v2, rfl, HBL.out, ?_⟩
    exact ⟨HR.out.1, HR.out.2.imp id fun ⟨g, cap, cur, e1, e2, e3⟩ => ⟨g, cap, cur, e1, Nat.le_trans HB.out.size e2, e3⟩⟩
  case stop =>
    intro c pre Y W _ h
    exact h.elim
end Go.Proofs.YtkncfeijlmomaaaGreatDoor

namespace Go.Proofs.YtkncfeijlmomaaaGreatDoor
open Go.RowKit Go.Sort
set_option linter.unusedSimpArgs false
set_option linter.unusedVariables false

/-- what the package's variables hold -/
def offN (i : Nat) : Int := [4, 2, 3, 5, 6, 3, 2, 4].getD i 0
/-- a position is laid into a block of its own, in a region that does not draw -/
theorem wpList_new {ops : Array Oper} {rest : List Oper} {d : Tmp} {y : Operand} {t1 t2 : TypeId} {p1 p2 : String} {e1 e2 : Array Edge} {a : Act} {w : World} {Q : Exit → Act → World → Prop}
    (E : Array Value) (P : Nat → Int) (hE : E = (pc P).toArray) (hx : (a.put (some d) (.pointer (some ⟨w.heap.size, 0, none⟩))).eval (.tmp d) = .pointer (some ⟨w.heap.size, 0, none⟩)) (hy : (a.put (some d) (.pointer (some ⟨w.heap.size, 0, none⟩))).eval y = .agg E)
    (k : ∀ W, PB W w.heap.size P → Below w.heap.size w W → W.heap.size = w.heap.size + 1 → wpList Tryz.prog ops Q rest (a.put (some d) (.pointer (some ⟨w.heap.size, 0, none⟩))) W) :
    wpList Tryz.prog ops Q ({ dst := some d, op := .alloc 29, type := t1, pos := p1, after := e1, guard := none } :: { dst := none, op := .store 29 (.tmp d) y, type := t2, pos := p2, after := e2, guard := none } :: rest) a w := by
  subst hE
  refine wpList_plain rfl (fun K hK => ?_)
  go_simp
  refine hK _ _ ?_
  clear hK K
  have hpn : PB (w.alloc (.cells Tryz.zeroCells29 29)) w.heap.size (fun _ => 0) := by rw [zeroPos]; exact PB.new rfl
  refine wpList_store_mid rfl 29 _ _ rfl w.heap.size 0 (pc P).toArray hx hy (by rw [pc_size]; exact hpn.there) (by rw [infoPos, pc_size]) (pc_one P) ?_
  rw [List.toList_toArray]
  exact k _ (hpn.store (Q := P)) (below_store (b := w.heap.size) P (below_new _) (Nat.le_refl _) (by simp)) (by rw [sizes_B]; simp)
def emptyN (i : Nat) : Int := if i = 130 then -1 else if i = 132 then 1 else 0
theorem empty_built : (Tryz.zeroCells29.setIfInBounds 130 (.int .i64 (-1))).setIfInBounds 132 (.int .i64 1) = (pc emptyN).toArray := by kernel_rfl
def startN (i : Nat) : Int :=
  if i < 128 then (if i % 2 = 0 then (if i / 2 < 8 then offN (i / 2) else if i / 2 < 16 then 1 else if i / 2 < 48 then 0 else if i / 2 < 56 then 1 else offN (i / 2 - 56)) else if i / 2 < 48 then 0 else 1)
  else if i = 129 then 15 else if i = 130 then -1 else if i = 132 then 1 else 0
def mixS (j i : Nat) : Int := if i < 128 ∧ i / 2 % 8 < j then startN i else emptyN i
theorem mixS_zero : ∀ i, i < 133 → emptyN i = mixS 0 i := fun i _ => by unfold mixS; rw [if_neg (by omega)]
theorem mixS_step : ∀ j, j < 8 → ∀ i, i < 133 → setN (setN (setN (setN (setN (setN (setN (setN (mixS j) (j * 2) (offN j)) (j * 2 + 1) 0) ((8 + j) * 2) 1) ((8 + j) * 2 + 1) 0) ((48 + j) * 2) 1) ((48 + j) * 2 + 1) 1) ((56 + j) * 2) (offN j)) ((56 + j) * 2 + 1) 1 i = mixS (j + 1) i := by decide +kernel
theorem mixS_end : ∀ i, i < 133 → setN (mixS 8) 129 15 i = startN i := by decide +kernel
/-- what stands while the begin is laid: the answer's place, the position -/
structure PS (w W : World) (blk : Nat) (P : Nat → Int) : Prop where
  z : PB W w.heap.size (fun _ => 0)
  p : PB W blk P
  b : Below w.heap.size w W
  n : w.heap.size < blk
theorem PS.go {w W W' : World} {b : Nat} {P : Nat → Int} (h : PS w W b P) (g : Below W.heap.size W W') : PS w W' b P := ⟨h.z.go g, h.p.go g, h.b.trans (g.mono h.b.size), h.n⟩
theorem PS.set {w W : World} {b : Nat} {P : Nat → Int} (h : PS w W b P) (i : Nat) (x : Int) (hi : i < 133) : PS w (W.setCell ⟨b, i, none⟩ (.int .i64 x)) b (setN P i x) :=
  ⟨h.z.other (by have := h.n; omega) _ _, h.p.set i x hi, h.b.setCell (p := ⟨b, i, none⟩) (by have := h.n; simp; omega) _, h.n⟩
theorem PS.congr {w W : World} {b : Nat} {P Q : Nat → Int} (h : PS w W b P) (e : ∀ i, i < 133 → P i = Q i) : PS w W b Q := ⟨h.z, h.p.congr e, h.b, h.n⟩
end Go.Proofs.YtkncfeijlmomaaaGreatDoor

namespace Go.Proofs.YtkncfeijlmomaaaGreatDoor
open Go.RowKit Go.Sort
set_option linter.unusedSimpArgs false
set_option linter.unusedVariables false

/-- the document's row of officers beside -/
structure PS2 (w W : World) (blk sb : Nat) (P : Nat → Int) : Prop where
  s : PS w W blk P
  r : ∀ i, i < 8 → W.cell? ⟨sb, i, none⟩ = some (.int .i64 (offN i))
  n : blk < sb
theorem PS2.set {w W : World} {b sb : Nat} {P : Nat → Int} (h : PS2 w W b sb P) (i : Nat) (x : Int) (hi : i < 133) : PS2 w (W.setCell ⟨b, i, none⟩ (.int .i64 x)) b sb (setN P i x) :=
  ⟨h.s.set i x hi, fun j hj => by rw [World.cell?_setCell_other _ _ _ _ (by intro e; injection e with e1; have := h.n; omega)]; exact h.r j hj, h.n⟩
end Go.Proofs.YtkncfeijlmomaaaGreatDoor
