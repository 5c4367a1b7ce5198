/-
  Contracts: where a mover's pieces go: the squares that they attack, a pawn's slanting ways, a pawn's way ahead.
-/
import Derived.Test.YtjhlombbkodpaaaDoorG8
import Derived.Test.YtjhlombbkodpaaaDoorG10
import Derived.Test.YtjhlombbkodpaaaDoorDo
import Derived.Test.YtjhlombbkodpaaaDoorG7
import Derived.Laws.OwnMore
import Derived.Lib.AppendZeros
namespace Go.Proofs.YtjhlombbkodpaaaDoor
open Go.RowKit Go.Sort
set_option linter.unusedSimpArgs false
set_option linter.unusedVariables false
set_option maxRecDepth 20000

/-- moves.castlings: castling, side, from, by -/
def mcsN (i : Nat) : Int := [1, 0, 4, 1, 2, 0, 4, -1, 4, 1, 60, 1, 8, 1, 60, -1].getD i 0
/-- what package moves' variable holds -/
structure GM (B : Nat) (w : World) : Prop where
  lt : 3 < B
  cell : ∀ i, i < 16 → w.cell? ⟨3, i, none⟩ = some (.int .i64 (mcsN i))
theorem GM.below {B : Nat} {w w' : World} (h : GM B w) (g : Below B w w') : GM B w' :=
  ⟨h.lt, fun i hi => by rw [g.cell (p := ⟨3, i, none⟩) h.lt]; exact h.cell i hi⟩
theorem GM.mono {B B' : Nat} {w : World} (h : GM B w) (hb : B ≤ B') : GM B' w := ⟨Nat.lt_of_lt_of_le h.lt hb, h.cell⟩
/-- what stands in a mover's calls -/
structure MV (B b : Nat) (P : Nat → Int) (w W : World) : Prop where
  p : PB W b P
  g : GS B W
  m : GM B W
  bel : Below w.heap.size w W
  l : b < w.heap.size
  k : B ≤ w.heap.size
theorem MV.s {B b : Nat} {P : Nat → Int} {w W : World} (h : MV B b P w W) : B ≤ W.heap.size := Nat.le_trans h.k h.bel.size
theorem MV.go2 {B b : Nat} {P : Nat → Int} {w W W' : World} (h : MV B b P w W) (g : Below w.heap.size W W') : MV B b P w W' :=
  ⟨h.p.below g h.l, h.g.below (g.mono h.k), h.m.below (g.mono h.k), h.bel.trans g, h.l, h.k⟩
theorem MV.go {B b : Nat} {P : Nat → Int} {w W W' : World} (h : MV B b P w W) (g : Below W.heap.size W W') : MV B b P w W' := h.go2 (g.mono h.bel.size)
theorem MV.begin {B b : Nat} {P : Nat → Int} {w : World} (hp : PB w b P) (hg : GS B w) (hm : GM B w) (hB : B ≤ w.heap.size) : MV B b P w w := ⟨hp, hg, hm, Below.refl _ _, hp.lt, hB⟩
theorem MV.anew {B b : Nat} {P : Nat → Int} {w W : World} (h : MV B b P w W) : MV B b P W W := ⟨h.p, h.g, h.m, Below.refl _ _, h.p.lt, h.s⟩
theorem fromL_range (P : Nat → Int) (s : Int) : ∀ x ∈ fromL P s, 0 ≤ x ∧ x < 64 := fun x hx => by
  rw [from_eq] at hx
  unfold rFromL at hx
  split at hx
  · obtain ⟨i, hi, _, rfl⟩ := (upList_mem _ _ _).1 hx
    omega
  · cases hx
theorem fromL_len (P : Nat → Int) (s : Int) : (fromL P s).length ≤ 64 := by
  rw [from_eq]
  unfold rFromL
  split
  · exact upList_len _ _
  · simp
/-- the squares that a piece attacks, without those of its own side -/
def freeL (P : Nat → Int) (s : Int) : List Int := (fromL P s).filter fun x => !mownB P x.toNat
set_option maxHeartbeats 1000000 in
theorem free_any (B b : Nat) (P : Nat → Int) (s : Int) (w : World) (hp : PB w b P) (hg : GS B w) (hm : GM B w) (hB : B ≤ w.heap.size) :
    Calls Tryd.prog 74 #[.pointer (some ⟨b, 0, none⟩), .int .i64 s] w fun e w' => ∃ v, e = .returned v ∧ Below w.heap.size w w' ∧ w'.ownsRow w.heap.size 3 1 v (freeL P s).length (ivals (freeL P s)) := by
  obtain ⟨X, hX⟩ : ∃ X, X = (pc P).toArray := ⟨_, rfl⟩
  have HI := Lib.hid (MV.begin hp hg hm hB)
  have MF := Lib.hid (fun W h1 h2 => from_any P s W B h1 h2)
  rw [← hX] at MF
  have HX := Lib.hid hX
  have hlt := hp.lt
  have HDF := Lib.hid (fun (v : Value) (W : World) (h1 : PB W b P ∧ w.heap.size ≤ W.heap.size) (h2 : W.ownsRow w.heap.size 3 1 v (fromL P s).length (ivals (fromL P s))) =>
    deleteFunc_any 106 b (enters_of Tryd.func106 (by kernel_rfl) rfl) (fun x => mownB P x.toNat) (fun W => PB W b P ∧ w.heap.size ≤ W.heap.size) w.heap.size (fun W h => h.2) (fun W W' h g => ⟨h.1.below g hlt, Nat.le_trans h.2 g.size⟩)
      (fun W x h x0 x1 => by
        obtain ⟨n, rfl⟩ := Int.eq_ofNat_of_zero_le x0
        rw [Int.toNat_natCast]
        exact mOwn_any b P n (by omega) W h.1) (fromL P s) (fromL_range P s) v W h1 (by have := fromL_len P s; omega) h2)
  clear hX hp hg hm hB hlt
  go_enter Tryd.func74, Tryd.ntmps74
  go_wp2_with (refine wpList_pos (by rfl) _ (by rfl) b P X HX.out (by rfl) HI.out.p ?_)
  refine (MF.out _ HI.out.g HI.out.s).mono ?_
  rintro e w1 ⟨v, rfl, hb, hown⟩
  replace HI := Lib.hid (HI.out.go hb)
  have HO := Lib.hid hown
  clear hb hown MF
  go_wp2_with fail
  refine (HDF.out v _ ⟨HI.out.p, HI.out.bel.size⟩ HO.out).mono ?_
  rintro e w2 ⟨v', rfl, hb, hown⟩
  replace HI := Lib.hid (HI.out.go2 hb)
  have HO2 := Lib.hid hown
  clear hb hown HDF
  go_wp2
  go_ret
  exact ⟨v', rfl, HI.out.bel, HO2.out⟩
theorem owns_below' {w : World} {base base2 : Nat} {e : TypeId} {k : Nat} {v : Value} {n : Nat} {xs : List Value} (h : w.ownsRow base2 e k v n xs) (hb : base ≤ base2) : w.ownsRow base e k v n xs := by
  refine ⟨h.1, ?_⟩
  rcases h.2 with h0 | ⟨g, cap, cur, h1, h2, h3⟩
  · exact .inl h0
  · exact .inr ⟨g, cap, cur, h1, Nat.le_trans hb h2, h3⟩
/-- where a pawn takes -/
def slantB (P : Nat → Int) (x : Nat) : Bool := mothB P x || ((x : Int) == P 130 && emB P x)
def slantL (P : Nat → Int) (s : Int) : List Int := (fromL P s).filter fun x => slantB P x.toNat
set_option maxHeartbeats 4000000 in
theorem slanting_any (B b : Nat) (P : Nat → Int) (s : Int) (w : World) (hp : PB w b P) (hg : GS B w) (hm : GM B w) (hB : B ≤ w.heap.size) :
    Calls Tryd.prog 73 #[.pointer (some ⟨b, 0, none⟩), .int .i64 s] w fun e w' => ∃ v, e = .returned v ∧ Below w.heap.size w w' ∧ w'.ownsRow w.heap.size 3 1 v (slantL P s).length (ivals (slantL P s)) := by
  obtain ⟨i0, hi, hz0, hz1, hz2⟩ := info_parts infoInt
  obtain ⟨X, hX⟩ : ∃ X, X = (pc P).toArray := ⟨_, rfl⟩
  have HI0 := Lib.hid (MV.begin hp hg hm hB)
  have MF := Lib.hid (fun W h1 h2 => from_any P s W B h1 h2)
  rw [← hX] at MF
  have HX := Lib.hid hX
  have hxs := fromL_range P s
  have hxl := fromL_len P s
  have HSL := Lib.hid (show slantL P s = (fromL P s).filter fun x => slantB P x.toNat from rfl)
  obtain ⟨xs, hxe⟩ : ∃ xs, fromL P s = xs := ⟨_, rfl⟩
  rw [hxe] at hxs hxl MF HSL
  obtain ⟨R, hR⟩ : ∃ R, slantL P s = R := ⟨_, rfl⟩
  rw [hR] at HSL ⊢
  obtain ⟨n, hn⟩ : ∃ n, xs.length = n := ⟨_, rfl⟩
  rw [hn] at hxl MF
  have HPRE := Lib.hid (show ∀ j, j < n → (xs.take (j + 1)).filter (fun x => slantB P x.toNat) = (xs.take j).filter (fun x => slantB P x.toNat) ++ if slantB P (xs.getD j 0).toNat then [xs.getD j 0] else [] from fun j hj => by
    rw [List.take_add_one, List.getElem?_eq_getElem (by omega), List.filter_append, show xs.getD j 0 = xs[j] by simp [List.getD, hn, hj]]
    congr 1
    simp only [Option.toList, List.filter_cons, List.filter_nil])
  have HXN := Lib.hid (show ∀ j, j < n → ∃ x : Nat, xs.getD j 0 = (x : Int) ∧ x < 64 from fun j hj => by
    have h := hxs (xs.getD j 0) (by rw [show xs.getD j 0 = xs[j] by simp [List.getD, hn, hj]]; exact List.getElem_mem _)
    exact ⟨(xs.getD j 0).toNat, by omega, by omega⟩)
  have HEND := Lib.hid (show (xs.take n).filter (fun x => slantB P x.toNat) = R by rw [HSL.out, List.take_of_length_le (by omega)])
  have HLE := Lib.hid (show ∀ j, ((xs.take j).filter (fun x => slantB P x.toNat)).length ≤ 64 from fun j => Nat.le_trans (List.length_filter_le _ _) (by simp; omega))
  have HRG := Lib.hid (show ivals xs = (List.range n).map fun i => .int .i64 (xs.getD i 0) by rw [ivals_range, hn])
  have HSB := Lib.hid (show ∀ x, slantB P x = (mothB P x || ((x : Int) == P 130 && emB P x)) from fun _ => rfl)
  have MO := Lib.hid (fun (x : Nat) (hx : x < 64) W h => mOth_any b P x hx W h)
  have ME := Lib.hid (fun (x : Nat) (hx : x < 64) W h => mStands_any b P x hx W h)
  clear hX hp hg hm hB hxe hR hxs HSL
  go_enter Tryd.func73, Tryd.ntmps73
  go_wp2_with (refine wpList_pos (by rfl) _ (by rfl) b P X HX.out (by rfl) HI0.out.p ?_)
  refine (MF.out _ HI0.out.g HI0.out.s).mono ?_
  rintro e w1 ⟨v, rfl, hb, hown⟩
  replace HI0 := Lib.hid (HI0.out.go hb)
  have HB1 := Lib.hid hb
  rw [HRG.out] at hown
  obtain ⟨pa, ca, rfl, hr, _⟩ := sq_reads hown
  have HR := Lib.hid hr
  have HI := Lib.hid HI0.out.anew
  clear hb hown MF hr
  go_wp2
  go_loopw [5, 15] (fun ts i wr => ∃ (j : Nat) (v : Value), j ≤ n ∧ i = .int .i64 (j : Int) ∧ ts = v ∧ MV B b P w1 wr ∧ wr.ownsRow w1.heap.size 3 1 v ((xs.take j).filter (fun x => slantB P x.toNat)).length (ivals ((xs.take j).filter (fun x => slantB P x.toNat)))) (fun _ i _ => n - (intOf i).toNat)
  case atStart => exact ⟨0, _, Nat.zero_le _, rfl, rfl, HI.out, by simpa [ivals] using World.ownsRow_nil w1 w1.heap.size 3 1⟩
  case round =>
    clear HI HI0
    obtain ⟨j, v, hj, rfl, rfl, h1, hown⟩ := hrel
    have HI := Lib.hid h1
    clear h1
    by_cases hlt : j < n
    · obtain ⟨xn, hxn, hx64⟩ := HXN.out j hlt
      have hrr := HR.out.below HI.out.bel
      obtain ⟨ab, ao, rfl⟩ := readsAddr hrr hlt
      have e0 := readsAt hrr hlt
      have hps := HPRE.out j hlt
      have hle := HLE.out j
      rw [hxn] at e0 hps
      rw [Int.toNat_natCast, HSB.out] at hps
      obtain ⟨L, hL⟩ : ∃ L, (xs.take j).filter (fun x => slantB P x.toNat) = L := ⟨_, rfl⟩
      rw [hL] at hps hown hle
      have HOW := Lib.hid hown
      have c1 := MO.out xn hx64 wr HI.out.p
      have HEX := Lib.hid (ME.out xn hx64)
      have ho := HI.out.p.cell 130 (by omega)
      obtain ⟨ov, hov⟩ : ∃ o, P 130 = o := ⟨_, rfl⟩
      rw [hov] at ho hps
      obtain ⟨mo, hmo⟩ : ∃ m, mothB P xn = m := ⟨_, rfl⟩
      rw [hmo] at c1 hps
      obtain ⟨em, hem⟩ : ∃ m, emB P xn = m := ⟨_, rfl⟩
      rw [hem] at HEX hps
      have x0 : (0 : Int) ≤ (xn : Int) := by omega
      have HOV := Lib.hid (show ∀ W, PB W b P → W.cell? ⟨b, 130, none⟩ = some (.int .i64 ov) from fun W h => by rw [← hov]; exact h.cell 130 (by omega))
      clear hown hL hrr hxn hov hmo hem ho hx64
      cases mo
      · by_cases hxo : ov = (xn : Int)
        · subst hxo
          cases em
          · have HS2 := Lib.hid (show (xs.take (j + 1)).filter (fun x => slantB P x.toNat) = L by rw [hps]; simp)
            clear hps
            go_wp2_with fail
            refine c1.mono ?_
            rintro e w5 ⟨rfl, hb⟩
            replace HI := Lib.hid (HI.out.go hb)
            replace HOW := Lib.hid (owns_go HOW.out hb)
            have ho := HOV.out _ HI.out.p
            clear hb e0
            go_wp2_with fail
            refine (HEX.out _ HI.out.p).mono ?_
            rintro e w6 ⟨rfl, hb⟩
            replace HI := Lib.hid (HI.out.go hb)
            replace HOW := Lib.hid (owns_go HOW.out hb)
            clear hb ho
            go_wp2
            go_roundw
            case rel => exact ⟨j + 1, _, hlt, by go_num, rfl, HI.out, by rw [HS2.out]; exact HOW.out⟩
            case measure => simp [intOf]; omega
          · have HS2 := Lib.hid (show (xs.take (j + 1)).filter (fun x => slantB P x.toNat) = L ++ [(xn : Int)] by rw [hps]; simp)
            clear hps
            go_wp2_with fail
            refine c1.mono ?_
            rintro e w5 ⟨rfl, hb⟩
            replace HI := Lib.hid (HI.out.go hb)
            replace HOW := Lib.hid (owns_go HOW.out hb)
            have ho := HOV.out _ HI.out.p
            clear hb e0
            go_wp2_with fail
            refine (HEX.out _ HI.out.p).mono ?_
            rintro e W4 ⟨rfl, hb⟩
            replace HI := Lib.hid (HI.out.go hb)
            replace HOW := Lib.hid (owns_go HOW.out hb)
            clear hb ho
            have hm1 : L.length + 1 ≤ maxLen := by unfold maxLen; omega
            go_wp2_with (at_builtin; refine wpList_append_lies _ rfl (.tmp 37) (.tmp 39) 39 rfl w1.heap.size 3 i0 (.int .i64 0) 1 8 Tryd.underlying39 hi hz0 hz1 hz2 rfl (by decide) _ L.length (ivals L) rfl (owns_go HOW.out ((Below.refl _ _).alloc (Nat.le_refl _) _)) ⟨W4.heap.size, 0, none⟩ 1 1 [.int .i64 (xn : Int)] rfl rfl (World.news_of_block (heap_alloc_new _ _)) ?c2 (by decide) hm1 (by omega) (by have := HI.out.bel.size; simp; omega) (W4.heap.size + 1) (by simp) ?next)
            case c2 => first | rfl | (intro y hy; simp at hy; subst hy; rfl)
            case next =>
              intro g1 cap1 w4 hown1 hgrow1 hat1 hlt3
              rw [ivals_snoc] at hown1
              have HB4 := Lib.hid (((below_new (w := W4) (.cells #[.int .i64 (xn : Int)] 3)).mono HI.out.bel.size).grown hgrow1 (by have := HI.out.bel.size; simp; omega) (fun b e => (HOW.out.lt b e).1))
              replace HI := Lib.hid (HI.out.go2 HB4.out)
              have HO4 := Lib.hid hown1
              clear hgrow1 hown1 hat1 HOW HB4
              go_wp2
              go_roundw
              case rel => exact ⟨j + 1, _, hlt, by go_num, rfl, HI.out, by rw [HS2.out, show (L ++ [(xn : Int)]).length = L.length + 1 by simp]; exact HO4.out⟩
              case measure => simp [intOf]; omega
        · have hxo' : ((xn : Int) == ov) = false := by simp; exact fun h => hxo h.symm
          clear hxo
          have HS2 := Lib.hid (show (xs.take (j + 1)).filter (fun x => slantB P x.toNat) = L by rw [hps, hxo']; simp)
          clear hps
          go_wp2_with fail
          refine c1.mono ?_
          rintro e w5 ⟨rfl, hb⟩
          replace HI := Lib.hid (HI.out.go hb)
          replace HOW := Lib.hid (owns_go HOW.out hb)
          have ho := HOV.out _ HI.out.p
          clear hb e0
          go_wp2
          go_roundw
          case rel => exact ⟨j + 1, _, hlt, by go_num, rfl, HI.out, by rw [HS2.out]; exact HOW.out⟩
          case measure => simp [intOf]; omega
      · have HS2 := Lib.hid (show (xs.take (j + 1)).filter (fun x => slantB P x.toNat) = L ++ [(xn : Int)] by rw [hps]; simp)
        clear hps
        go_wp2_with fail
        refine c1.mono ?_
        rintro e W4 ⟨rfl, hb⟩
        replace HI := Lib.hid (HI.out.go hb)
        replace HOW := Lib.hid (owns_go HOW.out hb)
        clear hb e0
        have hm1 : L.length + 1 ≤ maxLen := by unfold maxLen; omega
        go_wp2_with (at_builtin; refine wpList_append_lies _ rfl (.tmp 37) (.tmp 39) 39 rfl w1.heap.size 3 i0 (.int .i64 0) 1 8 Tryd.underlying39 hi hz0 hz1 hz2 rfl (by decide) _ L.length (ivals L) rfl (owns_go HOW.out ((Below.refl _ _).alloc (Nat.le_refl _) _)) ⟨W4.heap.size, 0, none⟩ 1 1 [.int .i64 (xn : Int)] rfl rfl (World.news_of_block (heap_alloc_new _ _)) ?c2 (by decide) hm1 (by omega) (by have := HI.out.bel.size; simp; omega) (W4.heap.size + 1) (by simp) ?next)
        case c2 => first | rfl | (intro y hy; simp at hy; subst hy; rfl)
        case next =>
          intro g1 cap1 w4 hown1 hgrow1 hat1 hlt3
          rw [ivals_snoc] at hown1
          have HB4 := Lib.hid (((below_new (w := W4) (.cells #[.int .i64 (xn : Int)] 3)).mono HI.out.bel.size).grown hgrow1 (by have := HI.out.bel.size; simp; omega) (fun b e => (HOW.out.lt b e).1))
          replace HI := Lib.hid (HI.out.go2 HB4.out)
          have HO4 := Lib.hid hown1
          clear hgrow1 hown1 hat1 HOW HB4
          go_wp2
          go_roundw
          case rel => exact ⟨j + 1, _, hlt, by go_num, rfl, HI.out, by rw [HS2.out, show (L ++ [(xn : Int)]).length = L.length + 1 by simp]; exact HO4.out⟩
          case measure => simp [intOf]; omega
    · obtain rfl : j = n := by omega
      rw [HEND.out] at hown
      have HO := Lib.hid hown
      clear hown
      go_wp2
      go_ret
      exact ⟨_, rfl, HB1.out.trans (HI.out.bel.mono HB1.out.size), owns_below' HO.out HB1.out.size⟩
end Go.Proofs.YtjhlombbkodpaaaDoor
