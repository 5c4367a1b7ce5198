/-
  Merged: Mh, Mi.
-/
import Derived.Test.YtcdnakbdajbfoaaGreatDoorG11
import Derived.Test.YtcdnakbdajbfoaaGreatDoorG4
import Derived.Test.YtcdnakbdajbfoaaGreatDoorG7
import Derived.Test.YtcdnakbdajbfoaaGreatDoorG8

namespace Go.Proofs.YtcdnakbdajbfoaaGreatDoor
open Go.RowKit Go.Sort
set_option linter.unusedSimpArgs false
set_option linter.unusedVariables false
set_option maxRecDepth 20000

def mvals (l : List (Int × Int × Int)) : List Value := l.flatMap fun m => [.int .i64 m.1, .int .i64 m.2.1, .int .i64 m.2.2]
theorem mvals_snoc (l : List (Int × Int × Int)) (f t k : Int) : mvals l ++ [.int .i64 f, .int .i64 t, .int .i64 k] = mvals (l ++ [(f, t, k)]) := by unfold mvals; rw [List.flatMap_append]; rfl
theorem mvals_app (l m : List (Int × Int × Int)) : mvals l ++ mvals m = mvals (l ++ m) := by unfold mvals; rw [List.flatMap_append]
theorem mvals_one (l : List (Int × Int × Int)) : ∀ u ∈ mvals l, u.oneCell' = true := fun u hu => by
  unfold mvals at hu
  obtain ⟨x, _, hx⟩ := List.mem_flatMap.1 hu
  simp at hx
  rcases hx with rfl | rfl | rfl <;> rfl
def oneM (P : Nat → Int) (s : Nat) (t : Int) : List (Int × Int × Int) := if lastB P s t.toNat then [((s : Int), t, 2), ((s : Int), t, 3), ((s : Int), t, 4), ((s : Int), t, 5)] else [((s : Int), t, 0)]
def putL (P : Nat → Int) (s : Nat) (xs : List Int) : List (Int × Int × Int) := xs.flatMap (oneM P s)
def kindsM (s : Nat) (t lo : Int) (n : Nat) : List (Int × Int × Int) := (List.range n).map fun (i : Nat) => ((s : Int), t, lo + (i : Int))
theorem kindsM_succ (s : Nat) (t lo : Int) (n : Nat) : kindsM s t lo (n + 1) = kindsM s t lo n ++ [((s : Int), t, lo + (n : Int))] := by
  unfold kindsM; rw [List.range_succ, List.map_append]; rfl
theorem oneM_kinds (P : Nat → Int) (s : Nat) (t : Int) : oneM P s t = kindsM s t (if lastB P s t.toNat then 2 else 0) (if lastB P s t.toNat then 4 else 1) := by
  unfold oneM kindsM
  split
  · rfl
  · rfl
theorem oneM_len (P : Nat → Int) (s : Nat) (t : Int) : (oneM P s t).length ≤ 4 := by unfold oneM; split <;> simp
theorem putL_len (P : Nat → Int) (s : Nat) (xs : List Int) : (putL P s xs).length ≤ 4 * xs.length := by
  induction xs with
  | nil => simp [putL]
  | cons a l ih =>
    unfold putL at ih ⊢
    rw [List.flatMap_cons, List.length_append]
    have := oneM_len P s a
    rw [List.length_cons]; omega
set_option maxHeartbeats 4000000 in
theorem put_any (B b : Nat) (P : Nat → Int) (s : Nat) (hs : s < 64) (xs : List Int) (hx : ∀ x ∈ xs, 0 ≤ x ∧ x < 64) (hlen : xs.length ≤ 100) (p : Option Addr) (c : Nat) (w : World) (hp : PB w b P) (hg : GS B w) (hm : GM B w) (hB : B ≤ w.heap.size)
    (hr : Reads w.heap.size w p xs.length (fun k => .int .i64 (xs.getD k 0))) :
    Calls Tryz.prog 113 #[.pointer (some ⟨b, 0, none⟩), .int .i64 (s : Int), .slice p xs.length c] w fun e w' => ∃ v, e = .returned v ∧ Below w.heap.size w w' ∧ w'.ownsRow w.heap.size 52 3 v (putL P s xs).length (mvals (putL P s xs)) := by
  obtain ⟨i1, hi1, hk⟩ : ∃ i, Tryz.prog.info? 52 = some i ∧ (i.zero, i.size, i.bytes) = (some (.agg #[.int .i64 0, .int .i64 0, .int .i64 0]), 3, 24) := by
    have h : (Tryz.prog.info? 52).map (fun i => (i.zero, i.size, i.bytes)) = some (some (.agg #[.int .i64 0, .int .i64 0, .int .i64 0]), 3, 24) := by kernel_rfl
    exact Option.map_eq_some_iff.1 h
  simp only [Prod.mk.injEq] at hk
  obtain ⟨hk0, hk1, hk2⟩ := hk
  have HI := Lib.hid (MV.begin hp hg hm hB)
  obtain ⟨n, hn⟩ : ∃ n, xs.length = n := ⟨_, rfl⟩
  have HPRE := Lib.hid (show ∀ j, j < n → putL P s (xs.take (j + 1)) = putL P s (xs.take j) ++ oneM P s (xs.getD j 0) from fun j hj => by
    unfold putL
    rw [List.take_add_one, List.getElem?_eq_getElem (by omega), List.flatMap_append, show xs.getD j 0 = xs[j] by simp [List.getD, hn, hj]]
    simp)
  have HXN := Lib.hid (show ∀ j, j < n → ∃ x : Nat, xs.getD j 0 = (x : Int) ∧ x < 64 from fun j hj => by
    have h := hx (xs.getD j 0) (by rw [show xs.getD j 0 = xs[j] by simp [List.getD, hn, hj]]; exact List.getElem_mem _)
    exact ⟨(xs.getD j 0).toNat, by omega, by omega⟩)
  have HEND := Lib.hid (show putL P s (xs.take n) = putL P s xs by rw [List.take_of_length_le (by omega)])
  have HLE := Lib.hid (show ∀ j, (putL P s (xs.take j)).length ≤ 400 from fun j => Nat.le_trans (putL_len _ _ _) (by simp; omega))
  have HBC := Lib.hid (fun (t : Nat) (ht : t < 64) W h => becomes_any b P s t hs ht W h)
  have HON := Lib.hid (oneM_kinds P s)
  rw [hn] at hr hlen ⊢
  have HR := Lib.hid hr
  have HN := Lib.hid hn
  clear hp hg hm hB hx hr hn
  go_enter Tryz.func113, Tryz.ntmps113
  go_wp2
  go_loopw [7, 15] (fun ts i wr => ∃ (j : Nat) (v : Value), j ≤ n ∧ i = .int .i64 (j : Int) ∧ ts = v ∧ MV B b P w wr ∧ wr.ownsRow w.heap.size 52 3 v (putL P s (xs.take j)).length (mvals (putL P s (xs.take j)))) (fun _ i _ => n - (intOf i).toNat)
  case atStart => exact ⟨0, _, Nat.zero_le _, rfl, rfl, HI.out, by simpa [mvals, putL] using World.ownsRow_nil w w.heap.size 52 3⟩
  case round =>
    clear HI
    obtain ⟨j, v, hj, rfl, rfl, h1, hown⟩ := hrel
    have HI := Lib.hid h1
    clear h1
    by_cases hlt : j < n
    · obtain ⟨xn, hxn, hx64⟩ := HXN.out j hlt
      have hrr := HR.out.below HI.out.bel
      obtain ⟨ab, ao, rfl⟩ := readsAddr hrr hlt
      have e0 := readsAt hrr hlt
      have hps := HPRE.out j hlt
      have hle := HLE.out j
      rw [hxn] at e0 hps
      have hon := HON.out (xn : Int)
      have hbc := HBC.out xn hx64
      rw [Int.toNat_natCast] at hon
      rw [hon] at hps
      obtain ⟨L, hL⟩ : ∃ L, putL P s (xs.take j) = L := ⟨_, rfl⟩
      rw [hL] at hps hown hle
      have HOW := Lib.hid hown
      obtain ⟨lb, hlb⟩ : ∃ x, lastB P s xn = x := ⟨_, rfl⟩
      rw [hlb] at hbc hps
      have x0 : (0 : Int) ≤ (xn : Int) := by omega
      have HPS := Lib.hid hps
      have HBB := Lib.hid hbc
      obtain ⟨lo, hlo⟩ : ∃ x : Int, (if lb then 2 else 0) = x := ⟨_, rfl⟩
      obtain ⟨hh, hhi⟩ : ∃ x : Int, (if lb then 5 else 0) = x := ⟨_, rfl⟩
      obtain ⟨nk, hnk⟩ : ∃ x : Nat, (if lb then 4 else 1) = x := ⟨_, rfl⟩
      have hb3 : 0 ≤ lo ∧ lo ≤ 2 ∧ hh = lo + (nk : Int) - 1 ∧ nk ≤ 4 ∧ 1 ≤ nk := by rw [← hlo, ← hhi, ← hnk]; cases lb <;> simp
      rw [hlo, hnk] at HPS
      rw [hlo, hhi] at HBB
      have HB3 := Lib.hid hb3
      clear hown hL hrr hxn hlb hps hbc hon hlo hhi hnk lb hx64 hb3
      go_wp2_with fail
      refine (HBB.out _ HI.out.p).mono ?_
      rintro e w5 ⟨rfl, hb⟩
      replace HI := Lib.hid (HI.out.go hb)
      replace HOW := Lib.hid (owns_go HOW.out hb)
      clear hb e0 HBB
      go_wp2
      go_loopw [7, 12] (fun ts kv wr => ∃ (m : Nat) (v : Value), m ≤ nk ∧ kv = .int .i64 (lo + (m : Int)) ∧ ts = v ∧ MV B b P w wr ∧ wr.ownsRow w.heap.size 52 3 v (L ++ kindsM s (xn : Int) lo m).length (mvals (L ++ kindsM s (xn : Int) lo m))) (fun _ kv _ => 10 - (intOf kv).toNat)
      case atStart => exact ⟨0, _, Nat.zero_le _, by rw [show lo + ((0 : Nat) : Int) = lo by omega], rfl, HI.out, by rw [show kindsM s (xn : Int) lo 0 = [] from rfl, List.append_nil]; exact HOW.out⟩
      case round =>
        clear HI HOW
        obtain ⟨m, v, hm, rfl, rfl, h1, hown⟩ := hrel
        have HI := Lib.hid h1
        clear h1
        by_cases hmk : m < nk
        · have hz : lo + (m : Int) ≤ hh := by have := HB3.out; omega
          have hsn := kindsM_succ s (xn : Int) lo m
          have hkl : (kindsM s (xn : Int) lo m).length = m := by unfold kindsM; simp
          obtain ⟨K, hK⟩ : ∃ K, L ++ kindsM s (xn : Int) lo m = K := ⟨_, rfl⟩
          have HKS := Lib.hid (show L ++ kindsM s (xn : Int) lo (m + 1) = K ++ [((s : Int), (xn : Int), lo + (m : Int))] by rw [hsn, ← List.append_assoc, hK])
          have hkl2 : K.length ≤ 500 := by rw [← hK, List.length_append, hkl]; have := HB3.out; omega
          rw [hK] at hown
          have HOW := Lib.hid hown
          obtain ⟨km, hkm⟩ : ∃ x : Int, lo + (m : Int) = x := ⟨_, rfl⟩
          have hkm1 : lo + ((m + 1 : Nat) : Int) = km + 1 := by omega
          have hkm2 : 0 ≤ km ∧ km ≤ 6 := by have := HB3.out; omega
          have hkm3 : wrap64 (km + 1) = km + 1 := by have := hkm2; unfold wrap64; omega
          rw [hkm] at HKS hz ⊢
          have HK1 := Lib.hid hkm1
          have HK2 := Lib.hid hkm2
          clear hown hK hsn hkl hkm hkm1 hkm2
          have hm1 : K.length + 1 ≤ maxLen := by unfold maxLen; omega
          go_wp2_with (at_builtin; refine wpList_append_lies _ rfl (.tmp 32) (.tmp 37) 46 rfl w.heap.size 52 i1 (.agg #[.int .i64 0, .int .i64 0, .int .i64 0]) 3 24 Tryz.underlying46 hi1 hk0 hk1 hk2 rfl (by decide) _ K.length (mvals K) rfl (owns_go HOW.out ((Below.refl _ _).alloc (Nat.le_refl _) _)) ⟨wr.heap.size, 0, none⟩ 1 1 [.int .i64 (s : Int), .int .i64 (xn : Int), .int .i64 km] rfl rfl (World.news_of_block (heap_alloc_new _ _)) ?c2 (by decide) hm1 (by omega) (by have := HI.out.bel.size; simp; omega) (wr.heap.size + 1) (by simp) ?next)
          case c2 => intro y hy; simp at hy; rcases hy with rfl | rfl | rfl <;> rfl
          case next =>
            intro g1 cap1 w4 hown1 hgrow1 hat1 hlt3
            rw [mvals_snoc] at hown1
            have HB4 := Lib.hid (((below_new (w := wr) (.cells #[.int .i64 (s : Int), .int .i64 (xn : Int), .int .i64 km] 52)).mono HI.out.bel.size).grown hgrow1 (by have := HI.out.bel.size; simp; omega) (fun b e => (HOW.out.lt b e).1))
            replace HI := Lib.hid (HI.out.go2 HB4.out)
            have HO4 := Lib.hid hown1
            clear hgrow1 hown1 hat1 HOW HB4
            go_wp2
            go_roundw
            case rel => exact ⟨m + 1, _, by omega, by rw [HK1.out]; first | rfl | rw [hkm3], rfl, HI.out, by rw [HKS.out, List.length_append]; exact HO4.out⟩
            case measure => have := HK2.out; simp [intOf]; omega
        · obtain rfl : m = nk := by omega
          have HOW := Lib.hid hown
          have hz : ¬ lo + (m : Int) ≤ hh := by have := HB3.out; omega
          clear hown
          go_wp2
          go_roundw
          case rel => exact ⟨j + 1, _, by omega, by go_num, rfl, HI.out, by rw [HPS.out]; exact HOW.out⟩
          case measure => simp [intOf]; omega
    · obtain rfl : j = n := by omega
      rw [HEND.out] at hown
      have HO := Lib.hid hown
      clear hown
      go_wp2
      go_ret
      exact ⟨_, rfl, HI.out.bel, HO.out⟩
def movesL (P : Nat → Int) (s : Nat) : List (Int × Int × Int) := putL P s (risen (goalsL P s))
theorem upW_range (P : Nat → Int) (on : Int) (n : Nat) : ∀ a, ∀ x ∈ upW P on n a, 0 ≤ x ∧ x < 64 := by
  induction n with
  | zero => intro a x hx; cases hx
  | succ n ih =>
    intro a x hx
    unfold upW at hx
    split at hx
    · rename_i h
      rw [Bool.and_eq_true] at h
      rcases List.mem_cons.1 hx with rfl | hx
      · exact (sq_iff x).1 h.1
      · exact ih _ x hx
    · cases hx
theorem castlesL_mem (P : Nat → Int) (s : Int) (n : Nat) (x : Int) (h : x ∈ castlesL P s n) : ∃ j, j < n ∧ cstB P s j = true ∧ x = stp s (2 * mcsN (j * 4 + 3)) 0 := by
  induction n with
  | zero => cases h
  | succ n ih =>
    simp only [castlesL, List.mem_append] at h
    rcases h with h | h
    · obtain ⟨j, h1, h2⟩ := ih h
      exact ⟨j, by omega, h2⟩
    · split at h
      · rename_i hc
        exact ⟨n, by omega, hc, List.mem_singleton.1 h⟩
      · cases h
theorem cst_to (P : Nat → Int) (s : Int) (j : Nat) (hj : j < 4) (h : cstB P s j = true) : (s = 4 ∨ s = 60) ∧ (stp s (2 * mcsN (j * 4 + 3)) 0 = s + 2 ∨ stp s (2 * mcsN (j * 4 + 3)) 0 = s - 2) := by
  unfold cstB at h
  simp only [Bool.and_eq_true, beq_iff_eq] at h
  obtain ⟨⟨⟨h1, _⟩, _⟩, _⟩ := h
  rcases (show j = 0 ∨ j = 1 ∨ j = 2 ∨ j = 3 by omega) with rfl | rfl | rfl | rfl
  · have e : s = 4 := h1
    subst e; exact ⟨.inl rfl, .inl rfl⟩
  · have e : s = 4 := h1
    subst e; exact ⟨.inl rfl, .inr rfl⟩
  · have e : s = 60 := h1
    subst e; exact ⟨.inr rfl, .inl rfl⟩
  · have e : s = 60 := h1
    subst e; exact ⟨.inr rfl, .inr rfl⟩
theorem goalsL_range (P : Nat → Int) (s : Nat) : ∀ x ∈ goalsL P s, 0 ≤ x ∧ x < 64 := fun x hx => by
  have hf : ∀ x ∈ freeL P (s : Int), 0 ≤ x ∧ x < 64 := fun x hx => fromL_range P s x (List.mem_filter.1 hx).1
  unfold goalsL at hx
  split at hx
  · rcases List.mem_append.1 hx with h | h
    · exact upW_range P _ _ _ x h
    · exact fromL_range P s x (List.mem_filter.1 h).1
  · split at hx
    · rcases List.mem_append.1 hx with h | h
      · exact hf x h
      · obtain ⟨j, hj, hc, rfl⟩ := castlesL_mem P s 4 x h
        obtain ⟨h1, h2⟩ := cst_to P s j hj hc
        rcases h1 with h1 | h1 <;> rcases h2 with h2 | h2 <;> rw [h2] <;> omega
    · exact hf x hx
theorem risen_mem (xs : List Int) (x : Int) : x ∈ risen xs ↔ x ∈ xs := by unfold risen; exact List.mem_mergeSort
theorem movesL_len (P : Nat → Int) (s : Nat) : (movesL P s).length ≤ 280 := by
  have h1 := putL_len P s (risen (goalsL P s))
  have h2 := goalsL_len P s
  rw [risen_len] at h1
  unfold movesL
  omega
set_option maxHeartbeats 1000000 in
theorem mMoves_any (B b : Nat) (P : Nat → Int) (s : Nat) (hs : s < 64) (w : World) (hp : PB w b P) (hg : GS B w) (hm : GM B w) (hB : B ≤ w.heap.size) :
    Calls Tryz.prog 81 #[.pointer (some ⟨b, 0, none⟩), .int .i64 (s : Int)] w fun e w' => ∃ v, e = .returned v ∧ Below w.heap.size w w' ∧ w'.ownsRow w.heap.size 52 3 v (movesL P s).length (mvals (movesL P s)) := by
  have HI := Lib.hid (MV.begin hp hg hm hB)
  have M1 := Lib.hid (fun W h1 h2 h3 h4 => goals_any B b P s hs W h1 h2 h3 h4)
  have M2 := Lib.hid (fun base v W h1 h2 => sort_own (goalsL P s) (by have := goalsL_len P s; omega) base v W h1 h2)
  have M3 := Lib.hid (fun p c W h1 h2 h3 h4 h5 => put_any B b P s hs (risen (goalsL P s)) (fun x hx => goalsL_range P s x ((risen_mem _ x).1 hx)) (by rw [risen_len]; have := goalsL_len P s; omega) p c W h1 h2 h3 h4 h5)
  have HML := Lib.hid (show movesL P s = putL P s (risen (goalsL P s)) from rfl)
  rw [HML.out]
  generalize putL P s (risen (goalsL P s)) = R at *
  clear HML
  have hrl := risen_len (goalsL P s)
  generalize risen (goalsL P s) = G2 at *
  generalize goalsL P s = G at *
  have HRL := Lib.hid hrl
  clear hp hg hm hB hrl
  go_enter Tryz.func81, Tryz.ntmps81
  go_wp2_with fail
  refine (M1.out _ HI.out.p HI.out.g HI.out.m HI.out.s).mono ?_
  rintro e w1 ⟨v, rfl, hb, hown⟩
  replace HI := Lib.hid (HI.out.go hb)
  have HO := Lib.hid hown
  clear hb hown M1
  go_wp2_with fail
  refine (M2.out _ v _ HI.out.bel.size HO.out).mono ?_
  rintro e w2 ⟨rfl, hb, hown⟩
  replace HI := Lib.hid (HI.out.go2 hb)
  rw [ivals_range] at hown
  obtain ⟨pa, ca, rfl, hr, _⟩ := sq_reads hown
  have HR := Lib.hid hr
  clear hb hown M2 hr HO
  go_wp2_with fail
  refine (M3.out pa ca _ HI.out.p HI.out.g HI.out.m HI.out.s HR.out).mono ?_
  rintro e w3 ⟨v3, rfl, hb, hown⟩
  have HB := Lib.hid (HI.out.bel.trans (hb.mono HI.out.bel.size))
  have HO3 := Lib.hid (owns_below' hown HI.out.bel.size)
  clear hb hown M3
  go_wp2
  go_ret
  exact ⟨v3, rfl, HB.out, HO3.out⟩
theorem infoMover : (Tryz.prog.info? 100).map (·.size) = some 133 := by kernel_rfl
theorem zeroMover : Tryz.zeroCells100 = (pc fun _ => 0).toArray := by kernel_rfl
theorem fold_mov (X : Array Value) (hX : X.size = 133) : Array.foldl (fun (cs : Array Value) (x : Value × Nat) => cs.setIfInBounds x.2 x.1) Tryz.zeroCells100 X.zipIdx 0 133 = X := by
  apply Array.ext_getElem?
  intro i
  have hz : Tryz.zeroCells100.size = 133 := by rw [zeroMover, pc_size]
  rw [show (133 : Nat) = X.zipIdx.size by simp [hX], ← Array.foldl_toList]
  rw [Array.toList_zipIdx, fold_setF X.toList 0 _ (by simp [hX, hz]) i]
  by_cases h : i < 133
  · rw [if_pos (by simp [hX, h]), Nat.sub_zero, Array.getElem?_toList]
  · rw [if_neg (by simp [hX]; omega), Array.getElem?_eq_none (by omega), Array.getElem?_eq_none (by omega)]
def fromM (P : Nat → Int) (s : Int) : List (Int × Int × Int) := if sq s && ownB P s.toNat then movesL P s.toNat else []
end Go.Proofs.YtcdnakbdajbfoaaGreatDoor

namespace Go.Proofs.YtcdnakbdajbfoaaGreatDoor
open Go.RowKit Go.Sort
set_option linter.unusedSimpArgs false
set_option linter.unusedVariables false
set_option maxRecDepth 20000
attribute [local go_sem] Oper.semAt_some

structure MO2 (b mb : Nat) (P : Nat → Int) (W : World) : Prop where
  m : W.heap[mb]? = some (.cells #[.pointer (some ⟨b, 0, none⟩)] 117 (0, 0))
  p : PB W b P
def MN2 (b mb : Nat) (q : Nat) : Prop := q = b ∨ q = mb
theorem MO2.same {b mb : Nat} {P : Nat → Int} {A B : World} (h : MO2 b mb P A) (hs : A.heap.size ≤ B.heap.size) (hx : ∀ k, MN2 b mb k → B.heap[k]? = A.heap[k]?) : MO2 b mb P B :=
  ⟨(hx _ (.inr rfl)).trans h.m, h.p.same hs (hx _ (.inl rfl))⟩
theorem MO2.lt {b mb : Nat} {P : Nat → Int} {A : World} (h : MO2 b mb P A) : ∀ k, MN2 b mb k → k < A.heap.size := by
  rintro q (rfl | rfl)
  · exact h.p.lt
  · exact al_lt h.m
theorem MO2.reads (b mb : Nat) (P : Nat → Int) : ∀ Y A B, MO2 b mb P A → (∀ q, Y q → ¬ MN2 b mb q) → Turns Y A B → MO2 b mb P B := fun Y A B h hx ht =>
  h.same ht.size fun k hk => ht.block k (h.lt k hk) (fun e => hx k e hk)
theorem MO2.go {b mb : Nat} {P : Nat → Int} {A B : World} (h : MO2 b mb P A) (g : Below A.heap.size A B) : MO2 b mb P B := h.same g.size fun k hk => g.block k (h.lt k hk)
theorem upList_pre (q : Nat → Bool) {n m : Nat} (h : n ≤ m) : upList q n <+: upList q m := by
  induction m with
  | zero => obtain rfl : n = 0 := by omega
            exact List.prefix_refl _
  | succ m ih =>
    rcases (show n ≤ m ∨ n = m + 1 by omega) with h1 | rfl
    · rw [upList_succ]; exact (ih h1).trans (List.prefix_append _ _)
    · exact List.prefix_refl _
set_option maxHeartbeats 2000000 in
set_option maxRecDepth 100000 in
theorem movers_comes (b mb : Nat) (P : Nat → Int) (w : World) (har : MO2 b mb P w) :
    Comes Tryz.prog 110 #[.pointer (some ⟨mb, 0, none⟩)] (MN2 b mb) (Value.int .i64) (upList (ownB P) 64) w := by
  refine ⟨har.lt, fun l J Jx X W hW hXN hJ hJx hlt hY h0 => ?_⟩
  have HA := Lib.hid (har.go hW)
  have HJ := Lib.hid hJ
  have HJX := Lib.hid hJx
  have HLT := Lib.hid hlt
  have HY := Lib.hid hY
  have HR := Lib.hid (MO2.reads b mb P)
  have HK := Lib.hid (show Keep J (MO2 b mb P) (MN2 b mb) [] [] X W from ⟨h0, HA.out, fun p hp => (by cases hp), fun q hq => ⟨hXN q hq, fun p hp => (by cases hp)⟩⟩)
  have HS := Lib.hid (upList_succ (ownB P))
  have MM := Lib.hid (fun (n : Nat) (hn : n < 64) W h => mayMove_any b P n hn W h)
  clear har hW hXN hJ hJx hlt hY h0 HA
  go_enter Tryz.func110, Tryz.ntmps110
  go_wp2
  go_loopw [4] (fun i wr => ∃ (m : Nat) (Y : Nat → Prop), m ≤ 64 ∧ i = .int .i64 (m : Int) ∧ Keep J (MO2 b mb P) (MN2 b mb) [] (upList (ownB P) m) Y wr) (fun i _ => 64 - (intOf i).toNat)
  case atStart => exact ⟨0, _, Nat.zero_le _, rfl, HK.out⟩
  case round =>
    clear HK
    obtain ⟨m, Y, hm, rfl, hk⟩ := hrel
    have HK := Lib.hid hk
    clear hk
    by_cases hlt : m < 64
    · have hs := HS.out m
      have HM := Lib.hid (MM.out m hlt)
      have HPF := Lib.hid (show ownB P m = true → upList (ownB P) m ++ [(m : Int)] <+: upList (ownB P) 64 from fun h => by
        have h1 := upList_pre (ownB P) (show m + 1 ≤ 64 by omega)
        rw [upList_succ, h, if_pos rfl] at h1
        exact h1)
      obtain ⟨ob, hob⟩ : ∃ x, ownB P m = x := ⟨_, rfl⟩
      rw [hob] at hs HM HPF
      have HSS := Lib.hid hs
      obtain ⟨c0, cf, _⟩ := row1 HK.out.r.m
      clear hs hob
      go_upto_region 3 with (fail)
      refine (wpIn_wide (n := 0)).1 ?_
      gi_wp2
      refine ⟨trivial, rfl, callsIn_wide.2 ((HM.out _ HK.out.r.p).mono ?_)⟩
      rintro e w3 ⟨rfl, hb⟩
      replace HK := Lib.hid (HK.out.go HR.out HJ.out hb)
      clear hb c0 cf HM
      have i0 : (0 : Int) ≤ (m : Int) := by omega
      have i1 : (m : Int) < 64 := by omega
      cases ob
      · gi_wp2
        refine ⟨fun _ _ => trivial, ?_⟩
        gi_wp2
        go_wp2
        go_roundw
        case rel => exact ⟨m + 1, Y, by omega, by go_num, by rw [HSS.out]; simpa using HK.out⟩
        case measure => simp [intOf]; omega
      · obtain ⟨fn, tmps, assign, body, hy, hR8⟩ := HY.out _ (m : Int) Y w3 HK.out.j (HPF.out rfl)
        gi_wp2
        refine ⟨rfl, (roundIn_wide hR8).mono ?_⟩
        clear hR8 hy
        rintro e B ⟨Z2, hT, hZ2, (⟨rfl, hJB⟩ | ⟨rfl, hJB⟩)⟩
        · have HK6 := Lib.hid (HK.out.turn HR.out HK.out.r.lt hT hZ2 hJB)
          clear hT hZ2 hJB HK
          gi_wp2
          go_wp2
          go_roundw
          case rel => exact ⟨m + 1, Z2, by omega, by go_num, by rw [HSS.out]; exact HK6.out⟩
          case measure => simp [intOf]; omega
        · gi_wp2
          go_wp2
          refine bodyPost_ret (results_none rfl _ _ _) rfl ?_
          exact ⟨⟨_, rfl⟩, Z2, .inr ⟨_, HPF.out (by trivial), hJB⟩⟩
    · obtain rfl : m = 64 := by omega
      rw [show ((64 : Nat) : Int) = 64 from rfl]
      go_wp2
      go_end0
      exact ⟨⟨_, rfl⟩, Y, .inl HK.out.j⟩
end Go.Proofs.YtcdnakbdajbfoaaGreatDoor
