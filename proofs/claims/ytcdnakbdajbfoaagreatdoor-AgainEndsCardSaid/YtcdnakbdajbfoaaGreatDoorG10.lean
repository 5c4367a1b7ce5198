/-
  Merged: Mc, Md, Bo.
-/
import Derived.Test.YtcdnakbdajbfoaaGreatDoorG7
import Derived.Test.YtcdnakbdajbfoaaGreatDoorG9
import Derived.Test.YtcdnakbdajbfoaaGreatDoorG6
import Derived.Laws.OwnMore
import Derived.Lib.AppendZeros
import Derived.Deep.CutRange

namespace Go.Proofs.YtcdnakbdajbfoaaGreatDoor
open Go.RowKit Go.Sort
set_option linter.unusedSimpArgs false
set_option linter.unusedVariables false
set_option maxRecDepth 20000

def mcsN (i : Nat) : Int := [1, 0, 4, 1, 2, 0, 4, -1, 4, 1, 60, 1, 8, 1, 60, -1].getD i 0
structure GM (B : Nat) (w : World) : Prop where
  lt : 3 < B
  cell : ∀ i, i < 16 → w.cell? ⟨3, i, none⟩ = some (.int .i64 (mcsN i))
theorem GM.below {B : Nat} {w w' : World} (h : GM B w) (g : Below B w w') : GM B w' :=
  ⟨h.lt, fun i hi => by rw [g.cell (p := ⟨3, i, none⟩) h.lt]; exact h.cell i hi⟩
theorem GM.mono {B B' : Nat} {w : World} (h : GM B w) (hb : B ≤ B') : GM B' w := ⟨Nat.lt_of_lt_of_le h.lt hb, h.cell⟩
structure MV (B b : Nat) (P : Nat → Int) (w W : World) : Prop where
  p : PB W b P
  g : GS B W
  m : GM B W
  bel : Below w.heap.size w W
  l : b < w.heap.size
  k : B ≤ w.heap.size
theorem MV.s {B b : Nat} {P : Nat → Int} {w W : World} (h : MV B b P w W) : B ≤ W.heap.size := Nat.le_trans h.k h.bel.size
theorem MV.go2 {B b : Nat} {P : Nat → Int} {w W W' : World} (h : MV B b P w W) (g : Below w.heap.size W W') : MV B b P w W' :=
  ⟨h.p.below g h.l, h.g.below (g.mono h.k), h.m.below (g.mono h.k), h.bel.trans g, h.l, h.k⟩
theorem MV.go {B b : Nat} {P : Nat → Int} {w W W' : World} (h : MV B b P w W) (g : Below W.heap.size W W') : MV B b P w W' := h.go2 (g.mono h.bel.size)
theorem MV.begin {B b : Nat} {P : Nat → Int} {w : World} (hp : PB w b P) (hg : GS B w) (hm : GM B w) (hB : B ≤ w.heap.size) : MV B b P w w := ⟨hp, hg, hm, Below.refl _ _, hp.lt, hB⟩
theorem MV.anew {B b : Nat} {P : Nat → Int} {w W : World} (h : MV B b P w W) : MV B b P W W := ⟨h.p, h.g, h.m, Below.refl _ _, h.p.lt, h.s⟩
theorem fromL_range (P : Nat → Int) (s : Int) : ∀ x ∈ fromL P s, 0 ≤ x ∧ x < 64 := fun x hx => by
  rw [from_eq] at hx
  unfold rFromL at hx
  split at hx
  · obtain ⟨i, hi, _, rfl⟩ := (upList_mem _ _ _).1 hx
    omega
  · cases hx
theorem fromL_len (P : Nat → Int) (s : Int) : (fromL P s).length ≤ 64 := by
  rw [from_eq]
  unfold rFromL
  split
  · exact upList_len _ _
  · simp
def freeL (P : Nat → Int) (s : Int) : List Int := (fromL P s).filter fun x => !mownB P x.toNat
set_option maxHeartbeats 1000000 in
theorem free_any (B b : Nat) (P : Nat → Int) (s : Int) (w : World) (hp : PB w b P) (hg : GS B w) (hm : GM B w) (hB : B ≤ w.heap.size) :
    Calls Tryz.prog 144 #[.pointer (some ⟨b, 0, none⟩), .int .i64 s] w fun e w' => ∃ v, e = .returned v ∧ Below w.heap.size w w' ∧ w'.ownsRow w.heap.size 3 1 v (freeL P s).length (ivals (freeL P s)) := by
  obtain ⟨X, hX⟩ : ∃ X, X = (pc P).toArray := ⟨_, rfl⟩
  have HI := Lib.hid (MV.begin hp hg hm hB)
  have MF := Lib.hid (fun W h1 h2 => from_any P s W B h1 h2)
  rw [← hX] at MF
  have HX := Lib.hid hX
  have hlt := hp.lt
  have HDF := Lib.hid (fun (v : Value) (W : World) (h1 : PB W b P ∧ w.heap.size ≤ W.heap.size) (h2 : W.ownsRow w.heap.size 3 1 v (fromL P s).length (ivals (fromL P s))) =>
    deleteFunc_any 175 b (enters_of Tryz.func175 (by kernel_rfl) rfl) (fun x => mownB P x.toNat) (fun W => PB W b P ∧ w.heap.size ≤ W.heap.size) w.heap.size (fun W h => h.2) (fun W W' h g => ⟨h.1.below g hlt, Nat.le_trans h.2 g.size⟩)
      (fun W x h x0 x1 => by
        obtain ⟨n, rfl⟩ := Int.eq_ofNat_of_zero_le x0
        rw [Int.toNat_natCast]
        exact mOwn_any b P n (by omega) W h.1) (fromL P s) (fromL_range P s) v W h1 (by have := fromL_len P s; omega) h2)
  clear hX hp hg hm hB hlt
  go_enter Tryz.func144, Tryz.ntmps144
  go_wp2_with (refine wpList_pos (by rfl) _ (by rfl) b P X HX.out (by rfl) HI.out.p ?_)
  refine (MF.out _ HI.out.g HI.out.s).mono ?_
  rintro e w1 ⟨v, rfl, hb, hown⟩
  replace HI := Lib.hid (HI.out.go hb)
  have HO := Lib.hid hown
  clear hb hown MF
  go_wp2_with fail
  refine (HDF.out v _ ⟨HI.out.p, HI.out.bel.size⟩ HO.out).mono ?_
  rintro e w2 ⟨v', rfl, hb, hown⟩
  replace HI := Lib.hid (HI.out.go2 hb)
  have HO2 := Lib.hid hown
  clear hb hown HDF
  go_wp2
  go_ret
  exact ⟨v', rfl, HI.out.bel, HO2.out⟩
theorem owns_below' {w : World} {base base2 : Nat} {e : TypeId} {k : Nat} {v : Value} {n : Nat} {xs : List Value} (h : w.ownsRow base2 e k v n xs) (hb : base ≤ base2) : w.ownsRow base e k v n xs := by
  refine ⟨h.1, ?_⟩
  rcases h.2 with h0 | ⟨g, cap, cur, h1, h2, h3⟩
  · exact .inl h0
  · exact .inr ⟨g, cap, cur, h1, Nat.le_trans hb h2, h3⟩
def slantB (P : Nat → Int) (x : Nat) : Bool := mothB P x || ((x : Int) == P 130 && emB P x)
def slantL (P : Nat → Int) (s : Int) : List Int := (fromL P s).filter fun x => slantB P x.toNat
set_option maxHeartbeats 4000000 in
theorem slanting_any (B b : Nat) (P : Nat → Int) (s : Int) (w : World) (hp : PB w b P) (hg : GS B w) (hm : GM B w) (hB : B ≤ w.heap.size) :
    Calls Tryz.prog 143 #[.pointer (some ⟨b, 0, none⟩), .int .i64 s] w fun e w' => ∃ v, e = .returned v ∧ Below w.heap.size w w' ∧ w'.ownsRow w.heap.size 3 1 v (slantL P s).length (ivals (slantL P s)) := by
  obtain ⟨i0, hi, hz0, hz1, hz2⟩ := info_parts infoInt
  obtain ⟨X, hX⟩ : ∃ X, X = (pc P).toArray := ⟨_, rfl⟩
  have HI0 := Lib.hid (MV.begin hp hg hm hB)
  have MF := Lib.hid (fun W h1 h2 => from_any P s W B h1 h2)
  rw [← hX] at MF
  have HX := Lib.hid hX
  have hxs := fromL_range P s
  have hxl := fromL_len P s
  have HSL := Lib.hid (show slantL P s = (fromL P s).filter fun x => slantB P x.toNat from rfl)
  obtain ⟨xs, hxe⟩ : ∃ xs, fromL P s = xs := ⟨_, rfl⟩
  rw [hxe] at hxs hxl MF HSL
  obtain ⟨R, hR⟩ : ∃ R, slantL P s = R := ⟨_, rfl⟩
  rw [hR] at HSL ⊢
  obtain ⟨n, hn⟩ : ∃ n, xs.length = n := ⟨_, rfl⟩
  rw [hn] at hxl MF
  have HPRE := Lib.hid (show ∀ j, j < n → (xs.take (j + 1)).filter (fun x => slantB P x.toNat) = (xs.take j).filter (fun x => slantB P x.toNat) ++ if slantB P (xs.getD j 0).toNat then [xs.getD j 0] else [] from fun j hj => by
    rw [List.take_add_one, List.getElem?_eq_getElem (by omega), List.filter_append, show xs.getD j 0 = xs[j] by simp [List.getD, hn, hj]]
    congr 1
    simp only [Option.toList, List.filter_cons, List.filter_nil])
  have HXN := Lib.hid (show ∀ j, j < n → ∃ x : Nat, xs.getD j 0 = (x : Int) ∧ x < 64 from fun j hj => by
    have h := hxs (xs.getD j 0) (by rw [show xs.getD j 0 = xs[j] by simp [List.getD, hn, hj]]; exact List.getElem_mem _)
    exact ⟨(xs.getD j 0).toNat, by omega, by omega⟩)
  have HEND := Lib.hid (show (xs.take n).filter (fun x => slantB P x.toNat) = R by rw [HSL.out, List.take_of_length_le (by omega)])
  have HLE := Lib.hid (show ∀ j, ((xs.take j).filter (fun x => slantB P x.toNat)).length ≤ 64 from fun j => Nat.le_trans (List.length_filter_le _ _) (by simp; omega))
  have HRG := Lib.hid (show ivals xs = (List.range n).map fun i => .int .i64 (xs.getD i 0) by rw [ivals_range, hn])
  have HSB := Lib.hid (show ∀ x, slantB P x = (mothB P x || ((x : Int) == P 130 && emB P x)) from fun _ => rfl)
  have MO := Lib.hid (fun (x : Nat) (hx : x < 64) W h => mOth_any b P x hx W h)
  have ME := Lib.hid (fun (x : Nat) (hx : x < 64) W h => mStands_any b P x hx W h)
  clear hX hp hg hm hB hxe hR hxs HSL
  go_enter Tryz.func143, Tryz.ntmps143
  go_wp2_with (refine wpList_pos (by rfl) _ (by rfl) b P X HX.out (by rfl) HI0.out.p ?_)
  refine (MF.out _ HI0.out.g HI0.out.s).mono ?_
  rintro e w1 ⟨v, rfl, hb, hown⟩
  replace HI0 := Lib.hid (HI0.out.go hb)
  have HB1 := Lib.hid hb
  rw [HRG.out] at hown
  obtain ⟨pa, ca, rfl, hr, _⟩ := sq_reads hown
  have HR := Lib.hid hr
  have HI := Lib.hid HI0.out.anew
  clear hb hown MF hr
  go_wp2
  go_loopw [5, 15] (fun ts i wr => ∃ (j : Nat) (v : Value), j ≤ n ∧ i = .int .i64 (j : Int) ∧ ts = v ∧ MV B b P w1 wr ∧ wr.ownsRow w1.heap.size 3 1 v ((xs.take j).filter (fun x => slantB P x.toNat)).length (ivals ((xs.take j).filter (fun x => slantB P x.toNat)))) (fun _ i _ => n - (intOf i).toNat)
  case atStart => exact ⟨0, _, Nat.zero_le _, rfl, rfl, HI.out, by simpa [ivals] using World.ownsRow_nil w1 w1.heap.size 3 1⟩
  case round =>
    clear HI HI0
    obtain ⟨j, v, hj, rfl, rfl, h1, hown⟩ := hrel
    have HI := Lib.hid h1
    clear h1
    by_cases hlt : j < n
    · obtain ⟨xn, hxn, hx64⟩ := HXN.out j hlt
      have hrr := HR.out.below HI.out.bel
      obtain ⟨ab, ao, rfl⟩ := readsAddr hrr hlt
      have e0 := readsAt hrr hlt
      have hps := HPRE.out j hlt
      have hle := HLE.out j
      rw [hxn] at e0 hps
      rw [Int.toNat_natCast, HSB.out] at hps
      obtain ⟨L, hL⟩ : ∃ L, (xs.take j).filter (fun x => slantB P x.toNat) = L := ⟨_, rfl⟩
      rw [hL] at hps hown hle
      have HOW := Lib.hid hown
      have c1 := MO.out xn hx64 wr HI.out.p
      have HEX := Lib.hid (ME.out xn hx64)
      have ho := HI.out.p.cell 130 (by omega)
      obtain ⟨ov, hov⟩ : ∃ o, P 130 = o := ⟨_, rfl⟩
      rw [hov] at ho hps
      obtain ⟨mo, hmo⟩ : ∃ m, mothB P xn = m := ⟨_, rfl⟩
      rw [hmo] at c1 hps
      obtain ⟨em, hem⟩ : ∃ m, emB P xn = m := ⟨_, rfl⟩
      rw [hem] at HEX hps
      have x0 : (0 : Int) ≤ (xn : Int) := by omega
      have HOV := Lib.hid (show ∀ W, PB W b P → W.cell? ⟨b, 130, none⟩ = some (.int .i64 ov) from fun W h => by rw [← hov]; exact h.cell 130 (by omega))
      clear hown hL hrr hxn hov hmo hem ho hx64
      cases mo
      · by_cases hxo : ov = (xn : Int)
        · subst hxo
          cases em
          · have HS2 := Lib.hid (show (xs.take (j + 1)).filter (fun x => slantB P x.toNat) = L by rw [hps]; simp)
            clear hps
            go_wp2_with fail
            refine c1.mono ?_
            rintro e w5 ⟨rfl, hb⟩
            replace HI := Lib.hid (HI.out.go hb)
            replace HOW := Lib.hid (owns_go HOW.out hb)
            have ho := HOV.out _ HI.out.p
            clear hb e0
            go_wp2_with fail
            refine (HEX.out _ HI.out.p).mono ?_
            rintro e w6 ⟨rfl, hb⟩
            replace HI := Lib.hid (HI.out.go hb)
            replace HOW := Lib.hid (owns_go HOW.out hb)
            clear hb ho
            go_wp2
            go_roundw
            case rel => exact ⟨j + 1, _, hlt, by go_num, rfl, HI.out, by rw [HS2.out]; exact HOW.out⟩
            case measure => simp [intOf]; omega
          · have HS2 := Lib.hid (show (xs.take (j + 1)).filter (fun x => slantB P x.toNat) = L ++ [(xn : Int)] by rw [hps]; simp)
            clear hps
            go_wp2_with fail
            refine c1.mono ?_
            rintro e w5 ⟨rfl, hb⟩
            replace HI := Lib.hid (HI.out.go hb)
            replace HOW := Lib.hid (owns_go HOW.out hb)
            have ho := HOV.out _ HI.out.p
            clear hb e0
            go_wp2_with fail
            refine (HEX.out _ HI.out.p).mono ?_
            rintro e W4 ⟨rfl, hb⟩
            replace HI := Lib.hid (HI.out.go hb)
            replace HOW := Lib.hid (owns_go HOW.out hb)
            clear hb ho
            have hm1 : L.length + 1 ≤ maxLen := by unfold maxLen; omega
            go_wp2_with (at_builtin; refine wpList_append_lies _ rfl (.tmp 37) (.tmp 39) 43 rfl w1.heap.size 3 i0 (.int .i64 0) 1 8 Tryz.underlying43 hi hz0 hz1 hz2 rfl (by decide) _ L.length (ivals L) rfl (owns_go HOW.out ((Below.refl _ _).alloc (Nat.le_refl _) _)) ⟨W4.heap.size, 0, none⟩ 1 1 [.int .i64 (xn : Int)] rfl rfl (World.news_of_block (heap_alloc_new _ _)) ?c2 (by decide) hm1 (by omega) (by have := HI.out.bel.size; simp; omega) (W4.heap.size + 1) (by simp) ?next)
            case c2 => first | rfl | (intro y hy; simp at hy; subst hy; rfl)
            case next =>
              intro g1 cap1 w4 hown1 hgrow1 hat1 hlt3
              rw [ivals_snoc] at hown1
              have HB4 := Lib.hid (((below_new (w := W4) (.cells #[.int .i64 (xn : Int)] 3)).mono HI.out.bel.size).grown hgrow1 (by have := HI.out.bel.size; simp; omega) (fun b e => (HOW.out.lt b e).1))
              replace HI := Lib.hid (HI.out.go2 HB4.out)
              have HO4 := Lib.hid hown1
              clear hgrow1 hown1 hat1 HOW HB4
              go_wp2
              go_roundw
              case rel => exact ⟨j + 1, _, hlt, by go_num, rfl, HI.out, by rw [HS2.out, show (L ++ [(xn : Int)]).length = L.length + 1 by simp]; exact HO4.out⟩
              case measure => simp [intOf]; omega
        · have hxo' : ((xn : Int) == ov) = false := by simp; exact fun h => hxo h.symm
          clear hxo
          have HS2 := Lib.hid (show (xs.take (j + 1)).filter (fun x => slantB P x.toNat) = L by rw [hps, hxo']; simp)
          clear hps
          go_wp2_with fail
          refine c1.mono ?_
          rintro e w5 ⟨rfl, hb⟩
          replace HI := Lib.hid (HI.out.go hb)
          replace HOW := Lib.hid (owns_go HOW.out hb)
          have ho := HOV.out _ HI.out.p
          clear hb e0
          go_wp2
          go_roundw
          case rel => exact ⟨j + 1, _, hlt, by go_num, rfl, HI.out, by rw [HS2.out]; exact HOW.out⟩
          case measure => simp [intOf]; omega
      · have HS2 := Lib.hid (show (xs.take (j + 1)).filter (fun x => slantB P x.toNat) = L ++ [(xn : Int)] by rw [hps]; simp)
        clear hps
        go_wp2_with fail
        refine c1.mono ?_
        rintro e W4 ⟨rfl, hb⟩
        replace HI := Lib.hid (HI.out.go hb)
        replace HOW := Lib.hid (owns_go HOW.out hb)
        clear hb e0
        have hm1 : L.length + 1 ≤ maxLen := by unfold maxLen; omega
        go_wp2_with (at_builtin; refine wpList_append_lies _ rfl (.tmp 37) (.tmp 39) 43 rfl w1.heap.size 3 i0 (.int .i64 0) 1 8 Tryz.underlying43 hi hz0 hz1 hz2 rfl (by decide) _ L.length (ivals L) rfl (owns_go HOW.out ((Below.refl _ _).alloc (Nat.le_refl _) _)) ⟨W4.heap.size, 0, none⟩ 1 1 [.int .i64 (xn : Int)] rfl rfl (World.news_of_block (heap_alloc_new _ _)) ?c2 (by decide) hm1 (by omega) (by have := HI.out.bel.size; simp; omega) (W4.heap.size + 1) (by simp) ?next)
        case c2 => first | rfl | (intro y hy; simp at hy; subst hy; rfl)
        case next =>
          intro g1 cap1 w4 hown1 hgrow1 hat1 hlt3
          rw [ivals_snoc] at hown1
          have HB4 := Lib.hid (((below_new (w := W4) (.cells #[.int .i64 (xn : Int)] 3)).mono HI.out.bel.size).grown hgrow1 (by have := HI.out.bel.size; simp; omega) (fun b e => (HOW.out.lt b e).1))
          replace HI := Lib.hid (HI.out.go2 HB4.out)
          have HO4 := Lib.hid hown1
          clear hgrow1 hown1 hat1 HOW HB4
          go_wp2
          go_roundw
          case rel => exact ⟨j + 1, _, hlt, by go_num, rfl, HI.out, by rw [HS2.out, show (L ++ [(xn : Int)]).length = L.length + 1 by simp]; exact HO4.out⟩
          case measure => simp [intOf]; omega
    · obtain rfl : j = n := by omega
      rw [HEND.out] at hown
      have HO := Lib.hid hown
      clear hown
      go_wp2
      go_ret
      exact ⟨_, rfl, HB1.out.trans (HI.out.bel.mono HB1.out.size), owns_below' HO.out HB1.out.size⟩
end Go.Proofs.YtcdnakbdajbfoaaGreatDoor

namespace Go.Proofs.YtcdnakbdajbfoaaGreatDoor
open Go.RowKit Go.Sort
set_option linter.unusedSimpArgs false
set_option linter.unusedVariables false
set_option maxRecDepth 20000

def upW (P : Nat → Int) (on : Int) : Nat → Int → List Int
  | 0, _ => []
  | n + 1, a => if sq a && emB P a.toNat then a :: upW P on n (stp a 0 on) else []
def onN (P : Nat → Int) : Int := if P 128 = 1 then -1 else 1
def farN (P : Nat → Int) (s : Nat) : Nat := if rkN P s = 1 then 2 else 1
def aheadL (P : Nat → Int) (s : Nat) : List Int := upW P (onN P) (farN P s) (stp (s : Int) 0 (onN P))
def lenV : Value → Nat
  | .slice _ n _ => n
  | _ => 0
set_option maxHeartbeats 2000000 in
theorem ahead_any (B b : Nat) (P : Nat → Int) (s : Nat) (hs : s < 64) (w : World) (hp : PB w b P) (hg : GS B w) (hm : GM B w) (hB : B ≤ w.heap.size) :
    Calls Tryz.prog 142 #[.pointer (some ⟨b, 0, none⟩), .int .i64 (s : Int)] w fun e w' => ∃ v, e = .returned v ∧ Below w.heap.size w w' ∧ w'.ownsRow w.heap.size 3 1 v (aheadL P s).length (ivals (aheadL P s)) := by
  obtain ⟨i0, hi, hz0, hz1, hz2⟩ := info_parts infoInt
  have HI := Lib.hid (MV.begin hp hg hm hB)
  have MK := Lib.hid (fun W h => mRank_any b P s hs W h)
  have HON := Lib.hid (show onN P = if P 128 = 1 then -1 else 1 from rfl)
  have HFR := Lib.hid (show farN P s = if rkN P s = 1 then 2 else 1 from rfl)
  have HAL := Lib.hid (show aheadL P s = upW P (onN P) (farN P s) (stp (s : Int) 0 (onN P)) from rfl)
  have HO64 := Lib.hid (show I64 (onN P) by unfold onN I64; split <;> omega)
  have HST := Lib.hid (fun (x : Nat) (hx : x < 64) W h => mStands_any b P x hx W h)
  obtain ⟨on, hon⟩ : ∃ o, onN P = o := ⟨_, rfl⟩
  obtain ⟨fr, hfr⟩ : ∃ o, farN P s = o := ⟨_, rfl⟩
  obtain ⟨rk, hrk⟩ : ∃ o, rkN P s = o := ⟨_, rfl⟩
  obtain ⟨R, hR⟩ : ∃ o, aheadL P s = o := ⟨_, rfl⟩
  rw [hrk] at MK HFR
  rw [hfr] at HFR HAL
  rw [hon] at HON HAL HO64
  rw [hR] at HAL ⊢
  have HF2 := Lib.hid (show fr ≤ 2 by rw [HFR.out]; split <;> omega)
  have e1 := hp.cell 128 (by omega)
  obtain ⟨sd, hsd⟩ : ∃ o, P 128 = o := ⟨_, rfl⟩
  rw [hsd] at HON e1
  clear hon hfr hrk hR hsd hp hg hm hB hs
  go_enter Tryz.func142, Tryz.ntmps142
  go_upto_if 14 with (fail)
  go_cut [5] from 15 to 43 (fun v wx => v = .int .i64 on ∧ MV B b P w wx)
  case first =>
    have hon := HON.out
    by_cases h1 : sd = 1
    · subst h1
      rw [if_pos rfl] at hon
      subst hon
      go_wp2_with fail
      go_meet
      exact ⟨rfl, HI.out⟩
    · have h1' : (sd == 1) = false := by simp [h1]
      rw [if_neg h1] at hon
      subst hon
      go_wp2_with fail
      go_meet
      exact ⟨rfl, HI.out⟩
  case rest =>
  obtain ⟨rfl, h⟩ := hcut
  replace HI := Lib.hid h
  clear h e1 HON
  go_wp2_with fail
  refine (MK.out _ HI.out.p).mono ?_
  rintro e w4 ⟨rfl, hb⟩
  replace HI := Lib.hid (HI.out.go hb)
  clear hb MK
  go_upto_if 18 with (fail)
  go_cut [6] from 19 to 43 (fun v wx => v = .int .i64 (fr : Int) ∧ MV B b P w wx)
  case first =>
    have hfr := HFR.out
    by_cases h1 : rk = 1
    · subst h1
      rw [if_pos rfl] at hfr
      subst hfr
      go_wp2_with fail
      go_meet
      exact ⟨rfl, HI.out⟩
    · have h1' : (rk == 1) = false := by simp [h1]
      rw [if_neg h1] at hfr
      subst hfr
      go_wp2_with fail
      go_meet
      exact ⟨rfl, HI.out⟩
  case rest =>
  obtain ⟨rfl, h⟩ := hcut
  replace HI := Lib.hid h
  clear h HFR
  go_wp2_with fail
  refine (step_any (s : Int) 0 on _ (by unfold I64; omega) HO64.out).mono ?_
  rintro e w7 ⟨rfl, hb⟩
  replace HI := Lib.hid (HI.out.go hb)
  clear hb
  go_wp2
  go_loopw [7, 8] (fun ts at' wr => ∃ (v : Value) (a : Int) (L : List Int), ts = v ∧ at' = .int .i64 a ∧ L.length ≤ fr ∧ R = L ++ upW P on (fr - L.length) a ∧ MV B b P w wr ∧ wr.ownsRow w.heap.size 3 1 v L.length (ivals L)) (fun ts _ _ => 2 - lenV ts)
  case atStart => exact ⟨_, _, [], rfl, rfl, Nat.zero_le _, by rw [HAL.out]; rfl, HI.out, by simpa [ivals] using World.ownsRow_nil w7 w.heap.size 3 1⟩
  case round =>
    clear HI
    obtain ⟨v, a, L, rfl, rfl, hk, hR, h1, hown⟩ := hrel
    have HI := Lib.hid h1
    have HOW := Lib.hid hown
    have hf2 := HF2.out
    rw [ivals_range] at hown
    obtain ⟨pv, cv, rfl, _, _⟩ := sq_reads hown
    have hll : (L.length : Int) ≤ 2 := by omega
    clear h1 hown
    by_cases hlt : L.length < fr
    · have hz : (L.length : Int) < (fr : Int) := by omega
      obtain ⟨m, hm⟩ : ∃ m, fr - L.length = m + 1 := ⟨fr - L.length - 1, by omega⟩
      rw [hm] at hR
      unfold upW at hR
      obtain ⟨sa, hsa⟩ : ∃ b, sq a = b := ⟨_, rfl⟩
      rw [hsa] at hR
      cases sa
      · have HRR := Lib.hid (show R = L by rw [hR]; simp)
        have HSA := Lib.hid hsa
        clear hR hm hsa
        go_wp2_with fail
        refine (is_any a _).mono ?_
        rw [HSA.out]
        rintro e w9 ⟨rfl, hb⟩
        replace HI := Lib.hid (HI.out.go hb)
        replace HOW := Lib.hid (owns_go HOW.out hb)
        clear hb
        go_wp2
        go_ret
        exact ⟨_, rfl, HI.out.bel, by rw [HRR.out]; exact HOW.out⟩
      · obtain ⟨a0, a1⟩ := (sq_iff a).1 hsa
        obtain ⟨n, rfl⟩ := Int.eq_ofNat_of_zero_le a0
        have hn64 : n < 64 := by omega
        have HC := Lib.hid (HST.out n hn64)
        obtain ⟨em, hem⟩ : ∃ b, emB P n = b := ⟨_, rfl⟩
        rw [hem] at HC
        rw [Int.toNat_natCast, hem] at hR
        have HSA := Lib.hid hsa
        have n0 : (0 : Int) ≤ (n : Int) := a0
        have n1 : (n : Int) < 64 := by omega
        have HM := Lib.hid hm
        clear hsa hem a0 a1 hm
        cases em
        · have HRR := Lib.hid (show R = L by rw [hR]; simp)
          clear hR
          go_wp2_with fail
          refine (is_any (n : Int) _).mono ?_
          rw [HSA.out]
          rintro e w9 ⟨rfl, hb⟩
          replace HI := Lib.hid (HI.out.go hb)
          replace HOW := Lib.hid (owns_go HOW.out hb)
          clear hb
          go_wp2_with fail
          refine (HC.out _ HI.out.p).mono ?_
          rintro e w10 ⟨rfl, hb⟩
          replace HI := Lib.hid (HI.out.go hb)
          replace HOW := Lib.hid (owns_go HOW.out hb)
          clear hb
          go_wp2
          go_ret
          exact ⟨_, rfl, HI.out.bel, by rw [HRR.out]; exact HOW.out⟩
        · have HRR := Lib.hid (show R = (L ++ [(n : Int)]) ++ upW P on (fr - (L ++ [(n : Int)]).length) (stp (n : Int) 0 on) by
            rw [hR, show fr - (L ++ [(n : Int)]).length = m by have := HM.out; simp; omega]; simp)
          clear hR
          go_wp2_with fail
          refine (is_any (n : Int) _).mono ?_
          rw [HSA.out]
          rintro e w9 ⟨rfl, hb⟩
          replace HI := Lib.hid (HI.out.go hb)
          replace HOW := Lib.hid (owns_go HOW.out hb)
          clear hb
          go_wp2_with fail
          refine (HC.out _ HI.out.p).mono ?_
          rintro e W4 ⟨rfl, hb⟩
          replace HI := Lib.hid (HI.out.go hb)
          replace HOW := Lib.hid (owns_go HOW.out hb)
          clear hb
          have hm1 : L.length + 1 ≤ maxLen := by unfold maxLen; omega
          go_wp2_with (at_builtin; refine wpList_append_lies _ rfl (.tmp 39) (.tmp 41) 43 rfl w.heap.size 3 i0 (.int .i64 0) 1 8 Tryz.underlying43 hi hz0 hz1 hz2 rfl (by decide) _ L.length (ivals L) rfl (owns_go HOW.out ((Below.refl _ _).alloc (Nat.le_refl _) _)) ⟨W4.heap.size, 0, none⟩ 1 1 [.int .i64 (n : Int)] rfl rfl (World.news_of_block (heap_alloc_new _ _)) ?c2 (by decide) hm1 (by omega) (by have := HI.out.bel.size; simp; omega) (W4.heap.size + 1) (by simp) ?next)
          case c2 => first | rfl | (intro y hy; simp at hy; subst hy; rfl)
          case next =>
            intro g1 cap1 w4' hown1 hgrow1 hat1 hlt3
            rw [ivals_snoc] at hown1
            have HB4 := Lib.hid (((below_new (w := W4) (.cells #[.int .i64 (n : Int)] 3)).mono HI.out.bel.size).grown hgrow1 (by have := HI.out.bel.size; simp; omega) (fun b e => (HOW.out.lt b e).1))
            replace HI := Lib.hid (HI.out.go2 HB4.out)
            have HO4 := Lib.hid hown1
            clear hgrow1 hown1 hat1 HOW HB4
            go_wp2_with fail
            refine (step_any (n : Int) 0 on _ (by unfold I64; omega) HO64.out).mono ?_
            rintro e w12 ⟨rfl, hb⟩
            replace HI := Lib.hid (HI.out.go hb)
            replace HO4 := Lib.hid (owns_go HO4.out hb)
            clear hb
            go_wp2
            go_roundw
            case rel => exact ⟨_, _, L ++ [(n : Int)], rfl, rfl, by simp; omega, HRR.out, HI.out, by rw [show (L ++ [(n : Int)]).length = L.length + 1 by simp]; exact HO4.out⟩
            case measure => simp [lenV]; omega
    · have HRR := Lib.hid (show R = L by rw [hR, show fr - L.length = 0 by omega]; simp [upW])
      have hz : ¬ (L.length : Int) < (fr : Int) := by omega
      clear hR
      go_wp2
      go_ret
      exact ⟨_, rfl, HI.out.bel, by rw [HRR.out]; exact HOW.out⟩
end Go.Proofs.YtcdnakbdajbfoaaGreatDoor

namespace Go.Proofs.YtcdnakbdajbfoaaGreatDoor
open Go.RowKit Go.Sort
set_option linter.unusedSimpArgs false
set_option linter.unusedVariables false

def overC (P : Nat → Int) (o rank a b : Nat) (pd : Int) : Bool := (o / 8 == rank) && pe (P (2 * o)) (P (2 * o + 1)) 0 0 && pe (P (2 * a)) (P (2 * a + 1)) 0 0 && pe (P (2 * b)) (P (2 * b + 1)) 1 pd
theorem wrap_sq (n : Nat) (h : n < 64) : IntKind.i64.wrap (n : Int) = (n : Int) := IntWalk.i64_in _ (by omega)
def overB (P : Nat → Int) : Bool := P 130 == -1 || (sq (P 130) && P 131 == 0 && if P 128 == 1 then overC P (P 130).toNat 2 ((P 130).toNat - 8) ((P 130).toNat + 8) 0 else overC P (P 130).toNat 5 ((P 130).toNat + 8) ((P 130).toNat - 8) 1)
def rightB (P : Nat → Int) : Bool := piecesB P && castB P && overB P && decide (0 ≤ P 131) && decide (P 131 ≤ 1024) && decide (1 ≤ P 132) && decide (P 132 ≤ 16384)
set_option maxHeartbeats 2000000 in
set_option maxRecDepth 100000 in
theorem rOver_any (P : Nat → Int) (w : World) :
    Calls Tryz.prog 91 #[.agg (pc P).toArray] w fun e w' => e = .returned (.bool (overB P)) ∧ Below w.heap.size w w' := by
  obtain ⟨X, hX⟩ : ∃ X, X = (pc P).toArray := ⟨_, rfl⟩
  rw [← hX]
  have HP0 := Lib.hid (show PB (w.alloc (.cells X 30)) w.heap.size P by subst hX; exact PB.new rfl)
  have HB0 := Lib.hid (below_new (w := w) (.cells X 30))
  clear hX
  go_enter Tryz.func91, Tryz.ntmps91
  go_upto_region 1 with (fail)
  refine forget_B (fun W => PB W w.heap.size P ∧ Below w.heap.size w W ∧ w.heap.size + 1 ≤ W.heap.size) ⟨HP0.out, HB0.out, by simp⟩ ?_
  clear HP0 HB0
  rintro W ⟨hp, hbw, hbs⟩
  have HP := Lib.hid hp
  have HB := Lib.hid hbw
  have hz : w.heap.size < W.heap.size := by omega
  have hz2 : ¬ w.heap.size = W.heap.size := by omega
  have hz3 : ¬ W.heap.size = w.heap.size := by omega
  have e1 := hp.cell 130 (by omega)
  have e2 := hp.cell 131 (by omega)
  have e3 := hp.cell 128 (by omega)
  clear hp hbw hbs
  have hv : overB P = (P 130 == -1 || (sq (P 130) && P 131 == 0 && if P 128 == 1 then overC P (P 130).toNat 2 ((P 130).toNat - 8) ((P 130).toNat + 8) 0 else overC P (P 130).toNat 5 ((P 130).toNat + 8) ((P 130).toNat - 8) 1)) := rfl
  obtain ⟨o, hpo⟩ : ∃ o, P 130 = o := ⟨_, rfl⟩
  rw [hpo] at hv e1
  generalize P 131 = hf at *
  generalize P 128 = sd at *
  by_cases h0 : o = -1
  · subst h0
    have HV := Lib.hid (show overB P = true by rw [hv]; rfl)
    clear hv
    go_wp2
    go_ret
    exact ⟨q_b HV.out.symm, HB.out⟩
  · have hm : (o == -1) = false := by simp [h0]
    rw [hm] at hv
    rcases sq_cases o with ⟨h1, hb⟩ | ⟨h1, hb⟩ | ⟨h1, h2, hb⟩
    case inr.inr =>
      by_cases hh : hf = 0
      · subst hh
        obtain ⟨m, rfl⟩ : ∃ m : Nat, o = (m : Int) := ⟨o.toNat, by omega⟩
        have hm64 : m < 64 := by omega
        rw [hb, Int.toNat_natCast] at hv
        have HPO := Lib.hid hpo
        clear hpo
        clear hb h0
        obtain ⟨q8, hq8⟩ : ∃ q, m / 8 = q := ⟨_, rfl⟩
        have HQ8 := Lib.hid hq8
        have wq := wrap_sq q8 (by omega)
        have tq2 : (m : Int) / 8 = (q8 : Int) := by omega
        have tq : (m : Int).tdiv 8 = (q8 : Int) := by rw [Int.tdiv_eq_ediv_of_nonneg (by omega)]; exact tq2
        clear hq8
        by_cases hs : sd = 1
        · subst hs
          have hv2 : overB P = overC P m 2 (m - 8) (m + 8) 0 := by rw [hv]; simp
          have HV := Lib.hid hv2
          clear hv hv2
          go_upto_region 8 with (fail)
          have hcase : ((q8 == 2) = false ∧ (((q8 : Int) == 2) = false)) ∨ ((q8 == 2) = true ∧ (((q8 : Int) == 2) = true)) := by
            by_cases h : q8 = 2
            · right; rw [h]; decide
            · left; exact ⟨by simp [h], by simp; omega⟩
          refine forget_B (fun W' => PB W' w.heap.size P ∧ W'.heap[W.heap.size]? = some (.cells #[.int .i64 1, .int .i64 0] 26 (0, 0)) ∧ Below w.heap.size w W') ⟨HP.out.alloc _, sl_at rfl, HB.out.alloc HB.out.size _⟩ ?_
          clear e1 e2 e3 hz hz2 hz3 HP HB
          rintro W3 ⟨hp, hx, hb3⟩
          have x1 := cell_regrown (hp.cell 130 (by omega))
          have y1 := cell_regrown (hp.cell (m * 2) (by omega))
          have y2 := cell_regrown (hp.cell (m * 2 + 1) (by omega))
          have v1 := cell_regrown (row2 hx).1
          have v2 := cell_regrown (row2 hx).2.1
          rw [HPO.out] at x1
          have HB := Lib.hid hb3
          have HP := Lib.hid hp
          clear hp hx hb3
          obtain ⟨k1, hk1⟩ : ∃ k, P (m * 2) = k := ⟨_, rfl⟩
          obtain ⟨d1, hd1⟩ : ∃ d, P (m * 2 + 1) = d := ⟨_, rfl⟩
          obtain ⟨p1, hp1⟩ : ∃ p, pe k1 d1 0 0 = p := ⟨_, rfl⟩
          have HV1 := Lib.hid (show pe (P (2 * m)) (P (2 * m + 1)) 0 0 = p1 by rw [Nat.mul_comm 2 m, hk1, hd1]; exact hp1)
          have c1 := regrown_call (w := W3) (rNone_any k1 d1)
          rw [hp1] at c1
          rw [hk1] at y1
          rw [hd1] at y2
          clear hk1 hd1 hp1
          rcases hcase with ⟨r1, r2⟩ | ⟨r1, r2⟩
          · have HF := Lib.hid (show overC P m 2 (m - 8) (m + 8) 0 = false by unfold overC; rw [HQ8.out, r1]; rfl)
            refine wp_region_quiet_below (by kernel_rfl) (by kernel_rfl) ?_
            repeat (first | go_big_quiet_step (fail) | quiet_step (fail))
            refine wpQuiet_nil ?_
            rintro W4 ⟨q, rfl⟩
            go_wp2
            go_ret
            exact ⟨q_b (by rw [HV.out, HF.out]), HB.out.trans ((below_regrown W3 q.d q.os).mono HB.out.size)⟩
          · have hm8 : q8 = 2 := by simpa using r1
            have hm9 := HQ8.out
            have ha64 : m - 8 < 64 := by omega
            have hb64 : m + 8 < 64 := by omega
            obtain ⟨a, haa⟩ : ∃ a, m - 8 = a := ⟨_, rfl⟩
            obtain ⟨b, hbb⟩ : ∃ b, m + 8 = b := ⟨_, rfl⟩
            have za : (m : Int) + -8 = (a : Int) := by omega
            have zb : (m : Int) - -8 = (b : Int) := by omega
            have zb2 : (m : Int) + 8 = (b : Int) := by omega
            have za2 : (m : Int) - 8 = (a : Int) := by omega
            have ga0 : (0 : Int) ≤ a := by omega
            have ga1 : (a : Int) < 64 := by omega
            have gb0 : (0 : Int) ≤ b := by omega
            have gb1 : (b : Int) < 64 := by omega
            have wa := wrap_sq a (by omega)
            have wb := wrap_sq b (by omega)
            rw [haa] at ha64
            rw [hbb] at hb64
            have hov : overC P m 2 (m - 8) (m + 8) 0 = (p1 && pe (P (2 * a)) (P (2 * a + 1)) 0 0 && pe (P (2 * b)) (P (2 * b + 1)) 1 0) := by unfold overC; rw [HQ8.out, r1, HV1.out, haa, hbb]; simp
            have HO := Lib.hid hov
            clear hov r1 hm8 hm9 haa hbb
            cases p1
            · refine wp_region_quiet_below (by kernel_rfl) (by kernel_rfl) ?_
              repeat (first | go_big_quiet_step (exact c1 _ _) | quiet_step (exact c1 _ _))
              refine wpQuiet_nil ?_
              rintro W4 ⟨q, rfl⟩
              go_wp2
              go_ret
              exact ⟨q_b (by rw [HV.out, HO.out]; simp), HB.out.trans ((below_regrown W3 q.d q.os).mono HB.out.size)⟩
            · have y3 := cell_regrown (HP.out.cell (a * 2) (by omega))
              have y4 := cell_regrown (HP.out.cell (a * 2 + 1) (by omega))
              have y5 := cell_regrown (HP.out.cell (b * 2) (by omega))
              have y6 := cell_regrown (HP.out.cell (b * 2 + 1) (by omega))
              rw [Nat.mul_comm 2 a, Nat.mul_comm 2 b] at HO
              obtain ⟨p2, hp2⟩ : ∃ p, pe (P (a * 2)) (P (a * 2 + 1)) 0 0 = p := ⟨_, rfl⟩
              obtain ⟨p3, hp3⟩ : ∃ p, pe (P (b * 2)) (P (b * 2 + 1)) 1 0 = p := ⟨_, rfl⟩
              have c2 := regrown_call (w := W3) (rNone_any (P (a * 2)) (P (a * 2 + 1)))
              rw [hp2] at c2
              rw [hp2, hp3] at HO
              clear hp2
              generalize P (a * 2) = k2 at *
              generalize P (a * 2 + 1) = d2 at *
              generalize P (b * 2) = k3 at *
              generalize P (b * 2 + 1) = d3 at *
              cases p2
              · refine wp_region_quiet_below (by kernel_rfl) (by kernel_rfl) ?_
                repeat (first | go_big_quiet_step (first | exact c1 _ _ | exact c2 _ _) | quiet_step (first | exact c1 _ _ | exact c2 _ _))
                refine wpQuiet_nil ?_
                rintro W4 ⟨q, rfl⟩
                go_wp2
                go_ret
                exact ⟨q_b (by rw [HV.out, HO.out]; simp), HB.out.trans ((below_regrown W3 q.d q.os).mono HB.out.size)⟩
              · refine wp_region_quiet_below (by kernel_rfl) (by kernel_rfl) ?_
                repeat (first | go_big_quiet_step (first | exact c1 _ _ | exact c2 _ _) | quiet_step (first | exact c1 _ _ | exact c2 _ _))
                refine wpQuiet_nil ?_
                rintro W4 ⟨q, rfl⟩
                go_wp2
                go_ret
                exact ⟨q_b (by rw [HV.out, HO.out]; simp), HB.out.trans ((below_regrown W3 q.d q.os).mono HB.out.size)⟩
        · have hs1 : (sd == 1) = false := by simp [hs]
          have hv2 : overB P = overC P m 5 (m + 8) (m - 8) 1 := by rw [hv, hs1]; simp
          have HV := Lib.hid hv2
          clear hv hv2 hs
          go_upto_region 8 with (fail)
          have hcase : ((q8 == 5) = false ∧ (((q8 : Int) == 5) = false)) ∨ ((q8 == 5) = true ∧ (((q8 : Int) == 5) = true)) := by
            by_cases h : q8 = 5
            · right; rw [h]; decide
            · left; exact ⟨by simp [h], by simp; omega⟩
          refine forget_B (fun W' => PB W' w.heap.size P ∧ W'.heap[W.heap.size]? = some (.cells #[.int .i64 1, .int .i64 1] 26 (0, 0)) ∧ Below w.heap.size w W') ⟨HP.out.alloc _, sl_at rfl, HB.out.alloc HB.out.size _⟩ ?_
          clear e1 e2 e3 hz hz2 hz3 HP HB
          rintro W3 ⟨hp, hx, hb3⟩
          have x1 := cell_regrown (hp.cell 130 (by omega))
          have y1 := cell_regrown (hp.cell (m * 2) (by omega))
          have y2 := cell_regrown (hp.cell (m * 2 + 1) (by omega))
          have v1 := cell_regrown (row2 hx).1
          have v2 := cell_regrown (row2 hx).2.1
          rw [HPO.out] at x1
          have HB := Lib.hid hb3
          have HP := Lib.hid hp
          clear hp hx hb3
          obtain ⟨k1, hk1⟩ : ∃ k, P (m * 2) = k := ⟨_, rfl⟩
          obtain ⟨d1, hd1⟩ : ∃ d, P (m * 2 + 1) = d := ⟨_, rfl⟩
          obtain ⟨p1, hp1⟩ : ∃ p, pe k1 d1 0 0 = p := ⟨_, rfl⟩
          have HV1 := Lib.hid (show pe (P (2 * m)) (P (2 * m + 1)) 0 0 = p1 by rw [Nat.mul_comm 2 m, hk1, hd1]; exact hp1)
          have c1 := regrown_call (w := W3) (rNone_any k1 d1)
          rw [hp1] at c1
          rw [hk1] at y1
          rw [hd1] at y2
          clear hk1 hd1 hp1
          rcases hcase with ⟨r1, r2⟩ | ⟨r1, r2⟩
          · have HF := Lib.hid (show overC P m 5 (m + 8) (m - 8) 1 = false by unfold overC; rw [HQ8.out, r1]; rfl)
            refine wp_region_quiet_below (by kernel_rfl) (by kernel_rfl) ?_
            repeat (first | go_big_quiet_step (fail) | quiet_step (fail))
            refine wpQuiet_nil ?_
            rintro W4 ⟨q, rfl⟩
            go_wp2
            go_ret
            exact ⟨q_b (by rw [HV.out, HF.out]), HB.out.trans ((below_regrown W3 q.d q.os).mono HB.out.size)⟩
          · have hm8 : q8 = 5 := by simpa using r1
            have hm9 := HQ8.out
            have ha64 : m + 8 < 64 := by omega
            have hb64 : m - 8 < 64 := by omega
            obtain ⟨a, haa⟩ : ∃ a, m + 8 = a := ⟨_, rfl⟩
            obtain ⟨b, hbb⟩ : ∃ b, m - 8 = b := ⟨_, rfl⟩
            have za : (m : Int) + 8 = (a : Int) := by omega
            have zb : (m : Int) - 8 = (b : Int) := by omega
            have zb2 : (m : Int) - 8 = (b : Int) := by omega
            have za2 : (m : Int) + 8 = (a : Int) := by omega
            have ga0 : (0 : Int) ≤ a := by omega
            have ga1 : (a : Int) < 64 := by omega
            have gb0 : (0 : Int) ≤ b := by omega
            have gb1 : (b : Int) < 64 := by omega
            have wa := wrap_sq a (by omega)
            have wb := wrap_sq b (by omega)
            rw [haa] at ha64
            rw [hbb] at hb64
            have hov : overC P m 5 (m + 8) (m - 8) 1 = (p1 && pe (P (2 * a)) (P (2 * a + 1)) 0 0 && pe (P (2 * b)) (P (2 * b + 1)) 1 1) := by unfold overC; rw [HQ8.out, r1, HV1.out, haa, hbb]; simp
            have HO := Lib.hid hov
            clear hov r1 hm8 hm9 haa hbb
            cases p1
            · refine wp_region_quiet_below (by kernel_rfl) (by kernel_rfl) ?_
              repeat (first | go_big_quiet_step (exact c1 _ _) | quiet_step (exact c1 _ _))
              refine wpQuiet_nil ?_
              rintro W4 ⟨q, rfl⟩
              go_wp2
              go_ret
              exact ⟨q_b (by rw [HV.out, HO.out]; simp), HB.out.trans ((below_regrown W3 q.d q.os).mono HB.out.size)⟩
            · have y3 := cell_regrown (HP.out.cell (a * 2) (by omega))
              have y4 := cell_regrown (HP.out.cell (a * 2 + 1) (by omega))
              have y5 := cell_regrown (HP.out.cell (b * 2) (by omega))
              have y6 := cell_regrown (HP.out.cell (b * 2 + 1) (by omega))
              rw [Nat.mul_comm 2 a, Nat.mul_comm 2 b] at HO
              obtain ⟨p2, hp2⟩ : ∃ p, pe (P (a * 2)) (P (a * 2 + 1)) 0 0 = p := ⟨_, rfl⟩
              obtain ⟨p3, hp3⟩ : ∃ p, pe (P (b * 2)) (P (b * 2 + 1)) 1 1 = p := ⟨_, rfl⟩
              have c2 := regrown_call (w := W3) (rNone_any (P (a * 2)) (P (a * 2 + 1)))
              rw [hp2] at c2
              rw [hp2, hp3] at HO
              clear hp2
              generalize P (a * 2) = k2 at *
              generalize P (a * 2 + 1) = d2 at *
              generalize P (b * 2) = k3 at *
              generalize P (b * 2 + 1) = d3 at *
              cases p2
              · refine wp_region_quiet_below (by kernel_rfl) (by kernel_rfl) ?_
                repeat (first | go_big_quiet_step (first | exact c1 _ _ | exact c2 _ _) | quiet_step (first | exact c1 _ _ | exact c2 _ _))
                refine wpQuiet_nil ?_
                rintro W4 ⟨q, rfl⟩
                go_wp2
                go_ret
                exact ⟨q_b (by rw [HV.out, HO.out]; simp), HB.out.trans ((below_regrown W3 q.d q.os).mono HB.out.size)⟩
              · refine wp_region_quiet_below (by kernel_rfl) (by kernel_rfl) ?_
                repeat (first | go_big_quiet_step (first | exact c1 _ _ | exact c2 _ _) | quiet_step (first | exact c1 _ _ | exact c2 _ _))
                refine wpQuiet_nil ?_
                rintro W4 ⟨q, rfl⟩
                go_wp2
                go_ret
                exact ⟨q_b (by rw [HV.out, HO.out]; simp), HB.out.trans ((below_regrown W3 q.d q.os).mono HB.out.size)⟩
      · have hh2 : (hf == 0) = false := by simp [hh]
        rw [hb, hh2] at hv
        have HV := Lib.hid (show overB P = false by rw [hv]; rfl)
        have hh3 : (hf != 0) = true := by simp [hh]
        clear hv hh
        go_wp2
        go_ret
        exact ⟨q_b (by rw [HV.out]; first | done | simp), HB.out⟩
    all_goals
      rw [hb] at hv
      have HV := Lib.hid (show overB P = false by rw [hv]; rfl)
      clear hv h0 hb
      go_wp2
      go_ret
      exact ⟨q_b (by rw [HV.out]; first | done | simp), HB.out⟩
end Go.Proofs.YtcdnakbdajbfoaaGreatDoor
