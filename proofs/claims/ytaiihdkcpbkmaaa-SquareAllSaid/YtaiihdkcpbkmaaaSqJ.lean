/-
  The walk of SquareAll.
-/
import Derived.Test.YtaiihdkcpbkmaaaSqI
namespace Go.Proofs.Ytaiihdkcpbkmaaa
open Go.RowKit
set_option linter.unusedSimpArgs false
set_option linter.unusedVariables false

/-- the steps of the law's rings: all of up to eight files and ranks, one behind the other -/
def fR (j : Nat) : Int := (j / 17 : Nat) - 8
def gR (j : Nat) : Int := (j % 17 : Nat) - 8
theorem fR_at (q t : Nat) (ht : t < 17) : fR (q * 17 + t) = (q : Int) - 8 := by unfold fR; rw [show (q * 17 + t) / 17 = q by omega]
theorem gR_at (q t : Nat) (ht : t < 17) : gR (q * 17 + t) = (t : Int) - 8 := by unfold gR; rw [show (q * 17 + t) % 17 = t by omega]
def rgC (j : Nat) : List Value := (List.range (j * 2)).map (pv fR gR)
theorem rgC_snoc (q t : Nat) (ht : t < 17) : rgC (q * 17 + t) ++ [.int .i64 ((q : Int) - 8), .int .i64 ((t : Int) - 8)] = rgC (q * 17 + t + 1) := by
  unfold rgC
  rw [show (q * 17 + t + 1) * 2 = (q * 17 + t) * 2 + 1 + 1 by omega, List.range_succ, List.range_succ, List.map_append, List.map_append, List.append_assoc]
  congr 1
  show _ = [pv fR gR ((q * 17 + t) * 2), pv fR gR ((q * 17 + t) * 2 + 1)]
  rw [pv0, pv1, fR_at q t ht, gR_at q t ht]
theorem ring_small (j : Nat) (hj : j < 289) : I64 (fR j) ∧ I64 (gR j) := by
  unfold fR gR I64; omega
theorem Reads2.take {B : Nat} {w : World} {p : Option Addr} {n m : Nat} {f g : Nat → Int} (h : Reads2 B w p n f g) (hm : m ≤ n) : Reads2 B w p m f g := by
  rcases h with h | ⟨b, off, h1, h2, h3⟩
  · exact .inl (by omega)
  · exact .inr ⟨b, off, h1, h2, fun i hi => h3 i (by omega)⟩
theorem own_cap {w : World} {base : Nat} {e : TypeId} {k n c : Nat} {p : Option Addr} {xs : List Value} (h : w.ownsRow base e k (.slice p n c) n xs) : n ≤ c := by
  rcases h.2 with ⟨h1, h0⟩ | ⟨g, cap, cur, h1, _, _, h2, _⟩
  · omega
  · cases h1; exact h2
theorem pairElem : Try.prog.underlying 22 = some (.slice (Try.prog.elem 22)) := by kernel_rfl
theorem pairElem' : Try.prog.elem 22 = 36 := by kernel_rfl
theorem sizePair (w : World) : (sizeOf 36).run Try.prog w = .ok 2 w := by
  obtain ⟨i, hi, _, hz1, _⟩ := info_parts infoPair
  simp [sizeOf, typeInfo, hi, hz1]
theorem slice9 (b o c : Nat) (hc : 289 ≤ c) (W : World) :
    (Instr.slice 22 (.slice (some ⟨b, o, none⟩) 289 c) none (some (.int .i64 9)) none).run Try.prog W = .ok (.slice (some ⟨b, o, none⟩) 9 c) W := by
  have h := run_slice_h W 22 (some ⟨b, o, none⟩) 289 c pairElem .i64 9 (by omega) (by omega)
  rw [pairElem', sizePair] at h
  simpa [sliced, Addr.add] using h
theorem ends_at {W : World} {E : Nat} (h : W.heap[E]? = some (.cells #[.int .i64 (-9223372036854775808), .int .i64 (-64), .int .i64 (-8), .int .i64 (-1), .int .i64 0, .int .i64 7, .int .i64 8, .int .i64 63, .int .i64 64, .int .i64 9223372036854775807] 3 (0, 0))) (i : Nat) (hi : i < 10) :
    ∃ x, W.cell? ⟨E, i, none⟩ = some (.int .i64 x) ∧ I64 x := by
  rw [cell_of_row W E i _ _ (0, 0) h]
  unfold I64
  match i, hi with
  | 0, _ => exact ⟨_, rfl, by omega⟩
  | 1, _ => exact ⟨_, rfl, by omega⟩
  | 2, _ => exact ⟨_, rfl, by omega⟩
  | 3, _ => exact ⟨_, rfl, by omega⟩
  | 4, _ => exact ⟨_, rfl, by omega⟩
  | 5, _ => exact ⟨_, rfl, by omega⟩
  | 6, _ => exact ⟨_, rfl, by omega⟩
  | 7, _ => exact ⟨_, rfl, by omega⟩
  | 8, _ => exact ⟨_, rfl, by omega⟩
  | 9, _ => exact ⟨_, rfl, by omega⟩
theorem call_one (s a b x y : Int) (ha : I64 a) (hb : I64 b) (hx : I64 x) (hy : I64 y) (W : World) (q : Nat) (h : W.heap[q]? = some (.cells #[.int .i64 x, .int .i64 y] 36 (0, 0))) :
    Calls Try.prog 3 #[.int .i64 s, .int .i64 a, .int .i64 b, .string ⟨#[97]⟩, .slice (some ⟨q, 0, none⟩) 1 1] W fun e w' => e = .returned (.bool true) ∧ Below W.heap.size W w' := by
  obtain ⟨p0, p1, _, pz⟩ := row2 h
  exact tells_walk W.heap.size s a b _ _ 1 1 (fun _ => x) (fun _ => y) W ha hb (.inr ⟨q, 0, rfl, pz, fun i hi => by
    obtain rfl : i = 0 := by omega
    exact ⟨p0, p1⟩⟩) (Nat.le_refl _) (fun i hi => ⟨hx, hy⟩) (by unfold maxLen; omega) (by show 1 ≤ _; unfold maxLen; omega)
theorem call_two (a b x y : Int) (ha : I64 a) (hb : I64 b) (hx : I64 x) (hy : I64 y) (W : World) (q : Nat) (h : W.heap[q]? = some (.cells #[.int .i64 x, .int .i64 0, .int .i64 0, .int .i64 y] 36 (0, 0))) :
    Calls Try.prog 3 #[.int .i64 27, .int .i64 a, .int .i64 b, .string ⟨#[]⟩, .slice (some ⟨q, 0, none⟩) 2 2] W fun e w' => e = .returned (.bool true) ∧ Below W.heap.size W w' := by
  have hc : ∀ j (v : Value), (#[Value.int .i64 x, Value.int .i64 0, Value.int .i64 0, Value.int .i64 y] : Array Value)[j]? = some v → W.cell? ⟨q, j, none⟩ = some v := fun j v hv => by rw [cell_of_row W q j _ _ (0, 0) h]; exact hv
  exact tells_walk W.heap.size 27 a b _ _ 2 2 (fun i => if i = 0 then x else 0) (fun i => if i = 0 then 0 else y) W ha hb (.inr ⟨q, 0, rfl, (Array.getElem?_eq_some_iff.1 h).1, fun i hi => by
    match i, hi with
    | 0, _ => exact ⟨hc 0 _ rfl, hc 1 _ rfl⟩
    | 1, _ => exact ⟨hc 2 _ rfl, hc 3 _ rfl⟩⟩) (Nat.le_refl _) (fun i hi => by
    match i, hi with
    | 0, _ => exact ⟨hx, i64_of (by omega) (by omega)⟩
    | 1, _ => exact ⟨i64_of (by omega) (by omega), hy⟩) (by unfold maxLen; omega) (by show 0 ≤ _; omega)
theorem cells3_go {W W' : World} {E i k j : Nat} {x y z : Value} (h : W.cell? ⟨E, i, none⟩ = some x ∧ W.cell? ⟨E, k, none⟩ = some y ∧ W.cell? ⟨E, j, none⟩ = some z) (hE : E < W.heap.size) (hb : Below W.heap.size W W') :
    W'.cell? ⟨E, i, none⟩ = some x ∧ W'.cell? ⟨E, k, none⟩ = some y ∧ W'.cell? ⟨E, j, none⟩ = some z :=
  ⟨(hb.cell (p := ⟨E, i, none⟩) hE).trans h.1, (hb.cell (p := ⟨E, k, none⟩) hE).trans h.2.1, (hb.cell (p := ⟨E, j, none⟩) hE).trans h.2.2⟩
theorem two_conv (W : World) (x y : Int) (x0 : 0 ≤ x) (x1 : x < 256) (y0 : 0 ≤ y) (y1 : y < 256) :
    (convert 39 9 (.slice (some ⟨W.heap.size, 0, none⟩) 2 2)).run Try.prog (W.alloc (.cells #[.int .u8 x, .int .u8 y] 5)) = .ok (.string ⟨#[ch x, ch y]⟩) (W.alloc (.cells #[.int .u8 x, .int .u8 y] 5)) :=
  run_convert_bytes_back (P := Try.prog) _ 39 9 5 ⟨W.heap.size, 0, none⟩ 2 [ch x, ch y] Try.underlying39 Try.underlying5 Try.underlying9 (fun j hj => by
    obtain ⟨p0, p1, _, _⟩ := row2 (sl_at (W := W) (o := .cells #[.int .u8 x, .int .u8 y] 5) rfl)
    match j, hj with
    | 0, _ => show World.cell? _ ⟨W.heap.size, 0 + 0, none⟩ = some (.int .u8 ((ch x).toNat : Int)); rw [ch_nat x0 x1]; exact p0
    | 1, _ => show World.cell? _ ⟨W.heap.size, 0 + 1, none⟩ = some (.int .u8 ((ch y).toNat : Int)); rw [ch_nat y0 y1]; exact p1)
theorem two_named (x y : Int) (x0 : 0 ≤ x) (x1 : x < 256) (y0 : 0 ≤ y) (y1 : y < 256) (W : World) :
    Calls Try.prog 8 #[.string ⟨#[ch x, ch y]⟩] W fun e w' => e = .returned (.tuple #[.int .i64 (if onB (x - 97) (y - 49) then 8 * (y - 49) + (x - 97) else 0), .bool (onB (x - 97) (y - 49))]) ∧ Below W.heap.size W w' := by
  have e0 : nb ⟨#[ch x, ch y]⟩ 0 = x := ch_nat x0 x1
  have e1 : nb ⟨#[ch x, ch y]⟩ 1 = y := ch_nat y0 y1
  have hi : isN ⟨#[ch x, ch y]⟩ = onB (x - 97) (y - 49) := by unfold isN; rw [e0, e1]; rfl
  have hn : nN ⟨#[ch x, ch y]⟩ = if onB (x - 97) (y - 49) then 8 * (y - 49) + (x - 97) else 0 := by unfold nN; rw [hi, e0, e1]
  rw [← hn, ← hi]
  exact named_any _ W
theorem ring_call (s : Int) (N : ByteArray) (b o c : Nat) (hN : N.size ≤ 2) (W : World) (h : Reads2 W.heap.size W (some ⟨b, o, none⟩) 289 fR gR) :
    Calls Try.prog 3 #[.int .i64 s, .int .i64 1, .int .i64 (-1), .string (N ++ ⟨#[97]⟩), .slice (some ⟨b, o, none⟩) 289 c] W fun e w' => e = .returned (.bool true) ∧ Below W.heap.size W w' := by
  have hz : (N ++ ⟨#[97]⟩ : ByteArray).size ≤ maxLen := by rw [ByteArray.size_append]; show N.size + 1 ≤ _; unfold maxLen; omega
  exact tells_walk W.heap.size s 1 (-1) _ _ 289 c fR gR W (i64_of (by omega) (by omega)) (i64_of (by omega) (by omega)) h (Nat.le_refl _) ring_small (by unfold maxLen; omega) hz
theorem ring_call9 (s : Int) (N : ByteArray) (b o c : Nat) (hN : N.size ≤ 2) (W : World) (h : Reads2 W.heap.size W (some ⟨b, o, none⟩) 289 fR gR) :
    Calls Try.prog 3 #[.int .i64 s, .int .i64 0, .int .i64 0, .string N, .slice (some ⟨b, o, none⟩) 9 c] W fun e w' => e = .returned (.bool true) ∧ Below W.heap.size W w' := by
  have hz : N.size ≤ maxLen := by unfold maxLen; omega
  exact tells_walk W.heap.size s 0 0 _ _ 9 c fR gR W (i64_of (by omega) (by omega)) (i64_of (by omega) (by omega)) (h.take (by omega)) (Nat.le_refl _) (fun i hi => ring_small i (by omega)) (by unfold maxLen; omega) hz
set_option maxHeartbeats 4000000 in
set_option maxRecDepth 100000 in
theorem all_walk (w : World) :
    Calls Try.prog 4 #[] w fun e w' => e = .returned (.bool true) ∧ Below w.heap.size w w' := by
  obtain ⟨i2, hi, hz0, hz1, hz2⟩ := info_parts infoPair
  go_enter Try.func4, Try.ntmps4
  go_wp2
  go_loopw [1] (fun sv wr => ∃ k : Nat, k ≤ 69 ∧ sv = .int .i64 ((k : Int) - 2) ∧ Below w.heap.size w wr) (fun sv _ => (67 - (intOf sv)).toNat)
  case atStart => exact ⟨0, Nat.zero_le _, rfl, Below.refl _ _⟩
  case round =>
    obtain ⟨k, hk, rfl, hbk⟩ := hrel
    by_cases hlt : k < 69
    · obtain ⟨s, hs⟩ : ∃ s, (k : Int) - 2 = s := ⟨_, rfl⟩
      have hs0 : -2 ≤ s ∧ s < 67 := by omega
      rw [hs]
      have HBK := Lib.hid hbk
      have HS := Lib.hid hs
      clear hbk hs
      obtain ⟨wo, hwo⟩ : ∃ wo : World, wo = wr := ⟨_, rfl⟩
      subst hwo
      go_wp2
      go_loopw [2, 3] (fun v fv wr => ∃ q : Nat, q ≤ 17 ∧ fv = .int .i64 ((q : Int) - 8) ∧ Below w.heap.size w wr ∧ wr.ownsRow w.heap.size 36 2 v (q * 17) (rgC (q * 17))) (fun _ fv _ => (9 - (intOf fv)).toNat)
      case atStart => exact ⟨0, Nat.zero_le _, rfl, HBK.out, World.ownsRow_nil _ _ _ _⟩
      case round =>
        clear HBK
        obtain ⟨q, hq, rfl, hbq, hownq⟩ := hrel
        by_cases hq17 : q < 17
        · obtain ⟨w1, hw1⟩ : ∃ w1 : World, w1 = wr := ⟨_, rfl⟩
          subst hw1
          have HBQ := Lib.hid hbq
          have HOQ := Lib.hid hownq
          clear hbq hownq
          have dq : decide ((q : Int) - 8 < 9) = true := by simp; omega
          go_wp2
          go_loopw [2, 4] (fun v rv wr => ∃ t : Nat, t ≤ 17 ∧ rv = .int .i64 ((t : Int) - 8) ∧ Below w.heap.size w wr ∧ wr.ownsRow w.heap.size 36 2 v (q * 17 + t) (rgC (q * 17 + t))) (fun _ rv _ => (9 - (intOf rv)).toNat)
          case atStart => exact ⟨0, Nat.zero_le _, rfl, HBQ.out, HOQ.out⟩
          case round =>
            clear HBQ HOQ
            obtain ⟨t, ht, rfl, hbt, hownt⟩ := hrel
            by_cases ht17 : t < 17
            · have HBT := Lib.hid hbt
              have HOT := Lib.hid hownt
              have HSN := Lib.hid (rgC_snoc q t ht17)
              have hm1 : q * 17 + t + 1 ≤ maxLen := by unfold maxLen; omega
              obtain ⟨f, hf⟩ : ∃ f, (q : Int) - 8 = f := ⟨_, rfl⟩
              obtain ⟨r, hr⟩ : ∃ r, (t : Int) - 8 = r := ⟨_, rfl⟩
              have hf0 : -8 ≤ f ∧ f < 9 := by omega
              have hr0 : -8 ≤ r ∧ r < 9 := by omega
              rw [hf, hr] at HSN
              rw [hf, hr]
              have HF := Lib.hid hf
              have HRR := Lib.hid hr
              clear hbt hownt hf hr
              go_wp2_with (at_builtin; refine wpList_append_lies _ rfl (.tmp 25) (.tmp 29) 22 rfl w.heap.size 36 i2 (.agg #[.int .i64 0, .int .i64 0]) 2 16 Try.underlying22 hi hz0 hz1 hz2 rfl (by decide) _ (q * 17 + t) (rgC (q * 17 + t)) rfl (HOT.out.alloc _) ⟨wr.heap.size, 0, none⟩ 1 1 [.int .i64 f, .int .i64 r] rfl rfl (World.news_of_block (heap_alloc_new _ _)) ?c2 (by decide) hm1 (by omega) (by simp; have := HBT.out.size; omega) (wr.heap.size + 1) (by simp) ?next)
              case c2 => intro y hy; simp at hy; rcases hy with rfl | rfl <;> rfl
              case next =>
                intro g1 cap1 w3 hown1 hgrow1 hat1 hlt3
                rw [HSN.out] at hown1
                have HB3 := Lib.hid ((HBT.out.alloc HBT.out.size _).grown hgrow1 (by simp; have := HBT.out.size; omega) (fun b e => (HOT.out.lt b e).1))
                have HO3 := Lib.hid hown1
                clear hgrow1 hown1 hat1 HBT HOT
                obtain ⟨x, hx⟩ : ∃ x, stp s f r = x := ⟨_, rfl⟩
                obtain ⟨y, hy⟩ : ∃ y, sAt f r = y := ⟨_, rfl⟩
                have HX := Lib.hid hx
                have HY := Lib.hid hy
                have hIf : I64 f := i64_of (by omega) (by omega)
                have hIr : I64 r := i64_of (by omega) (by omega)
                obtain ⟨m, h, hm7, hq1, hq2⟩ := rays_both s f r hIf hIr
                have HQ1 := Lib.hid hq1
                have HQ2 := Lib.hid hq2
                have HIF := Lib.hid hIf
                have HIR := Lib.hid hIr
                clear hx hy hq1 hq2 hIf hIr
                go_wp2_with fail
                refine (step_any s f r _ HIF.out HIR.out).mono ?_
                rw [HX.out]
                rintro e w4 ⟨rfl, hb4⟩
                have HB4 := Lib.hid (HB3.out.trans (hb4.mono HB3.out.size))
                have HO4 := Lib.hid (owns_go HO3.out hb4)
                clear hb4 HB3 HO3
                go_wp2_with fail
                refine (rStep_any s f r _ HIF.out HIR.out).mono ?_
                rw [HX.out]
                rintro e w5 ⟨rfl, hb5⟩
                have HB5 := Lib.hid (HB4.out.trans (hb5.mono HB4.out.size))
                have HO5 := Lib.hid (owns_go HO4.out hb5)
                clear hb5 HB4 HO4
                go_wp2_with fail
                refine (at_any f r _).mono ?_
                rw [HY.out]
                rintro e w6 ⟨rfl, hb6⟩
                have HB6 := Lib.hid (HB5.out.trans (hb6.mono HB5.out.size))
                have HO6 := Lib.hid (owns_go HO5.out hb6)
                clear hb6 HB5 HO5
                go_wp2_with fail
                refine (rAt_any f r _ HIF.out HIR.out).mono ?_
                rw [HY.out]
                rintro e w' ⟨rfl, rfl⟩
                by_cases h5 : s.tmod 5 = 0
                · have d5 : (s.tmod 5 == 0) = true := by simp [h5]
                  go_wp2_with fail
                  refine (HQ1.out _).mono ?_
                  rintro e w7 ⟨v3, rfl, hb7, hown3⟩
                  obtain ⟨p3, c3, rfl, hr3, _⟩ := sq_reads hown3
                  have HB7 := Lib.hid (HB6.out.trans (hb7.mono HB6.out.size))
                  have HO7 := Lib.hid (owns_go HO6.out hb7)
                  have HR3 := Lib.hid hr3
                  clear hb7 hown3 hr3 HB6 HO6
                  go_wp2_with fail
                  refine (HQ2.out _).mono ?_
                  rintro e w8 ⟨v4, rfl, hb8, hown4⟩
                  obtain ⟨p4, c4, rfl, hr4, _⟩ := sq_reads hown4
                  have HB8 := Lib.hid (HB7.out.trans (hb8.mono HB7.out.size))
                  have HO8 := Lib.hid (owns_go HO7.out hb8)
                  replace HR3 := Lib.hid ((HR3.out.below hb8).mono hb8.size)
                  have HR4 := Lib.hid hr4
                  clear hb8 hown4 hr4 HB7 HO7
                  go_wp2_with fail
                  refine (sameInts_any _ p3 p4 m c3 c4 h _ (by omega) HR3.out HR4.out).mono ?_
                  rintro e w9 ⟨rfl, hb9⟩
                  have HB9 := Lib.hid (HB8.out.trans (hb9.mono HB8.out.size))
                  have HO9 := Lib.hid (owns_go HO8.out hb9)
                  clear hb9 HB8 HO8
                  go_wp2
                  have hf' := HF.out
                  have hr' := HRR.out
                  subst hf' hr'
                  go_roundw
                  case rel =>
                    rw [show (t : Int) - 8 + 1 = ((t + 1 : Nat) : Int) - 8 by omega]
                    exact ⟨t + 1, by omega, rfl, HB9.out, HO9.out⟩
                  case measure => simp [intOf]; omega
                · have d5 : (s.tmod 5 == 0) = false := by simp [h5]
                  go_wp2
                  have hf' := HF.out
                  have hr' := HRR.out
                  subst hf' hr'
                  go_roundw
                  case rel =>
                    rw [show (t : Int) - 8 + 1 = ((t + 1 : Nat) : Int) - 8 by omega]
                    exact ⟨t + 1, by omega, rfl, HB6.out, HO6.out⟩
                  case measure => simp [intOf]; omega
            · obtain rfl : t = 17 := by omega
              have HBT := Lib.hid hbt
              have HOT := Lib.hid hownt
              clear hbt hownt
              go_wp2
              go_roundw
              case rel =>
                rw [show (q : Int) - 8 + 1 = ((q + 1 : Nat) : Int) - 8 by omega]
                exact ⟨q + 1, by omega, rfl, HBT.out, by rw [show (q + 1) * 17 = q * 17 + 17 by omega]; exact HOT.out⟩
              case measure => simp [intOf]; omega
        · obtain rfl : q = 17 := by omega
          rw [show 17 * 17 = 289 from rfl] at hownq
          obtain ⟨p2, c2, hv2, hr2⟩ := owns2_reads hownq
          subst hv2
          have hcap := own_cap hownq
          rcases hr2 with h0 | ⟨b2, o2, rfl, hbb2, hcc2⟩
          · omega
          have HBQ := Lib.hid hbq
          have HR2 := Lib.hid (show Reads2 wr.heap.size wr (some ⟨b2, o2, none⟩) 289 fR gR from .inr ⟨b2, o2, rfl, hbb2, hcc2⟩)
          obtain ⟨N, hN⟩ : ∃ N, nmV s = N := ⟨_, rfl⟩
          have hnz : N.size ≤ 2 := by rw [← hN]; unfold nmV; split; exact Nat.le_refl 2; exact Nat.zero_le 2
          have HN := Lib.hid hN
          have HNY := Lib.hid (show N.size ≤ maxLen from Nat.le_trans hnz (by unfold maxLen; omega))
          have HNZ := Lib.hid (show (N ++ ⟨#[97]⟩ : ByteArray).size ≤ maxLen from by rw [ByteArray.size_append]; show N.size + 1 ≤ _; unfold maxLen; omega)
          have HSL := Lib.hid (slice9 b2 o2 c2 hcap)
          have HT1 := Lib.hid (ring_call s N b2 o2 c2 hnz)
          have HT2 := Lib.hid (ring_call9 s N b2 o2 c2 hnz)
          have HNA := Lib.hid (show N.size ≤ 9223372036854775806 from by omega)
          have HNB := Lib.hid (show (⟨#[97]⟩ : ByteArray).size = 1 from rfl)
          clear hnz
          clear hbq hownq hbb2 hcc2 hN hcap
          go_upto_region 14 with (fail)
          refine wp_region_noPanic ?_
          refine wp_region_start (n := 16) (l := #[false, false, false, false, false, false, false, false, false, false, false, false, false, false, false, false]) (S := (fun _ => True)) (by kernel_rfl) rfl (by kernel_rfl) (by trivial) (fun hHeld => ?_)
          replace HR2 := Lib.hid (show Reads2 wr.drew.heap.size wr.drew (some ⟨b2, o2, none⟩) 289 fR gR from HR2.out)
          refine take_to (i := 0) (d := some 66) (v := ?_) (l' := #[true, false, false, false, false, false, false, false, false, false, false, false, false, false, false, false]) rfl rfl (by kernel_rfl) (by kernel_rfl) (by kernel_rfl) (by kernel_rfl) (fun _ _ _ h => h) (Or.inl ⟨by rfl, ?_⟩) (by assumption) ?_; rotate_left; · (intro w' hSw; (try dsimp only at hSw); go_simp; (try with_reducible rfl))
          try simp only [Act.put, List.setIfInBounds_toArray, List.set_cons_zero, List.set_cons_succ]
          refine take_to (i := 1) (d := some 67) (v := ?_) (l' := #[true, true, false, false, false, false, false, false, false, false, false, false, false, false, false, false]) rfl rfl (by kernel_rfl) (by kernel_rfl) (by kernel_rfl) (by kernel_rfl) (fun _ _ _ h => h) (Or.inl ⟨by rfl, ?_⟩) (by assumption) ?_; rotate_left; · (intro w' hSw; (try dsimp only at hSw); go_simp; (try with_reducible rfl))
          try simp only [Act.put, List.setIfInBounds_toArray, List.set_cons_zero, List.set_cons_succ]
          refine take_to (i := 4) (d := some 70) (v := ?_) (l' := #[true, true, false, false, true, false, false, false, false, false, false, false, false, false, false, false]) rfl rfl (by kernel_rfl) (by kernel_rfl) (by kernel_rfl) (by kernel_rfl) (fun _ _ _ h => h) (Or.inl ⟨by rfl, ?_⟩) (by assumption) ?_; rotate_left; · (intro w' hSw; (try dsimp only at hSw); go_simp; (try with_reducible rfl))
          try simp only [Act.put, List.setIfInBounds_toArray, List.set_cons_zero, List.set_cons_succ]
          refine one_to (i := 2) (l' := #[true, true, true, false, true, false, false, false, false, false, false, false, false, false, false, false]) rfl (by kernel_rfl) (by kernel_rfl) (fun K hK => ?_)
          go_simp
          refine (rName_any s _).mono ?_
          rw [HN.out]
          rintro e w3 ⟨rfl, hb3⟩
          replace HBQ := Lib.hid (HBQ.out.drew.trans (hb3.mono HBQ.out.size))
          replace HR2 := Lib.hid ((HR2.out.below hb3).mono hb3.size)
          clear hb3
          dsimp only
          refine hK.out _ _ (by trivial) (fun hHeld => ?_)
          clear hK K
          try simp only [Act.put, List.setIfInBounds_toArray, List.set_cons_zero, List.set_cons_succ]
          refine take_to (i := 3) (d := some 69) (v := (.string (N ++ ⟨#[97]⟩))) (l' := #[true, true, true, true, true, false, false, false, false, false, false, false, false, false, false, false]) rfl rfl (by kernel_rfl) (by kernel_rfl) (by kernel_rfl) (by kernel_rfl) (fun _ _ _ h => h) ?_ (by assumption) ?_
          · (refine Or.inl ⟨by rfl, ?_⟩; intro w' hSw; have hnb := HNB.out; go_simp; exact HNA.out)
          try simp only [Act.put, List.setIfInBounds_toArray, List.set_cons_zero, List.set_cons_succ]
          refine one_to (i := 5) (l' := #[true, true, true, true, true, true, false, false, false, false, false, false, false, false, false, false]) rfl (by kernel_rfl) (by kernel_rfl) (fun K hK => ?_)
          go_simp
          refine (HT1.out _ HR2.out).mono ?_
          rintro e w4 ⟨rfl, hb4⟩
          replace HBQ := Lib.hid (HBQ.out.trans (hb4.mono HBQ.out.size))
          replace HR2 := Lib.hid ((HR2.out.below hb4).mono hb4.size)
          clear hb4
          dsimp only
          refine hK.out _ _ (by trivial) (fun hHeld => ?_)
          clear hK K
          try simp only [Act.put, List.setIfInBounds_toArray, List.set_cons_zero, List.set_cons_succ]
          refine take_to (i := 6) (d := some 72) (v := ?_) (l' := #[true, true, true, true, true, true, true, false, false, false, false, false, false, false, false, false]) rfl rfl (by kernel_rfl) (by kernel_rfl) (by kernel_rfl) (by kernel_rfl) (fun _ _ _ h => h) (Or.inl ⟨by rfl, ?_⟩) (by assumption) ?_; rotate_left; · (intro w' hSw; (try dsimp only at hSw); go_simp; (try with_reducible rfl))
          try simp only [Act.put, List.setIfInBounds_toArray, List.set_cons_zero, List.set_cons_succ]
          refine take_to (i := 7) (d := some 73) (v := ?_) (l' := #[true, true, true, true, true, true, true, true, false, false, false, false, false, false, false, false]) rfl rfl (by kernel_rfl) (by kernel_rfl) (by kernel_rfl) (by kernel_rfl) (fun _ _ _ h => h) (Or.inl ⟨by rfl, ?_⟩) (by assumption) ?_; rotate_left; · (intro w' hSw; (try dsimp only at hSw); go_simp; (try with_reducible rfl))
          try simp only [Act.put, List.setIfInBounds_toArray, List.set_cons_zero, List.set_cons_succ]
          refine take_to (i := 8) (d := some 74) (v := ?_) (l' := #[true, true, true, true, true, true, true, true, true, false, false, false, false, false, false, false]) rfl rfl (by kernel_rfl) (by kernel_rfl) (by kernel_rfl) (by kernel_rfl) (fun _ _ _ h => h) (Or.inl ⟨by rfl, ?_⟩) (by assumption) ?_; rotate_left; · (intro w' hSw; (try dsimp only at hSw); go_simp; (try with_reducible rfl))
          try simp only [Act.put, List.setIfInBounds_toArray, List.set_cons_zero, List.set_cons_succ]
          refine take_to (i := 9) (d := some 75) (v := ?_) (l' := #[true, true, true, true, true, true, true, true, true, true, false, false, false, false, false, false]) rfl rfl (by kernel_rfl) (by kernel_rfl) (by kernel_rfl) (by kernel_rfl) (fun _ _ _ h => h) (Or.inl ⟨by rfl, ?_⟩) (by assumption) ?_; rotate_left; · (intro w' hSw; (try dsimp only at hSw); go_simp; (try with_reducible rfl))
          try simp only [Act.put, List.setIfInBounds_toArray, List.set_cons_zero, List.set_cons_succ]
          refine take_to (i := 11) (d := some 77) (v := ?_) (l' := #[true, true, true, true, true, true, true, true, true, true, false, true, false, false, false, false]) rfl rfl (by kernel_rfl) (by kernel_rfl) (by kernel_rfl) (by kernel_rfl) (fun _ _ _ h => h) (Or.inl ⟨by rfl, ?_⟩) (by assumption) ?_; rotate_left; · (intro w' hSw; (try dsimp only at hSw); go_simp; (try with_reducible rfl))
          try simp only [Act.put, List.setIfInBounds_toArray, List.set_cons_zero, List.set_cons_succ]
          refine take_to (i := 12) (d := some 78) (v := (.slice (some ⟨b2, o2, none⟩) 9 c2)) (l' := #[true, true, true, true, true, true, true, true, true, true, false, true, true, false, false, false]) rfl rfl (by kernel_rfl) (by kernel_rfl) (by kernel_rfl) (by kernel_rfl) (fun _ _ _ h => h) ?_ (by assumption) ?_
          · (refine Or.inl ⟨by rfl, ?_⟩; intro w' hSw; have hsl := HSL.out w'; go_simp)
          try simp only [Act.put, List.setIfInBounds_toArray, List.set_cons_zero, List.set_cons_succ]
          refine one_to (i := 10) (l' := #[true, true, true, true, true, true, true, true, true, true, true, true, true, false, false, false]) rfl (by kernel_rfl) (by kernel_rfl) (fun K hK => ?_)
          go_simp
          refine (rName_any s _).mono ?_
          rw [HN.out]
          rintro e w5 ⟨rfl, hb5⟩
          replace HBQ := Lib.hid (HBQ.out.trans (hb5.mono HBQ.out.size))
          replace HR2 := Lib.hid ((HR2.out.below hb5).mono hb5.size)
          clear hb5
          dsimp only
          refine hK.out _ _ (by trivial) (fun hHeld => ?_)
          clear hK K
          try simp only [Act.put, List.setIfInBounds_toArray, List.set_cons_zero, List.set_cons_succ]
          refine one_to (i := 13) (l' := #[true, true, true, true, true, true, true, true, true, true, true, true, true, true, false, false]) rfl (by kernel_rfl) (by kernel_rfl) (fun K hK => ?_)
          go_simp
          refine (HT2.out _ HR2.out).mono ?_
          rintro e w6 ⟨rfl, hb6⟩
          replace HBQ := Lib.hid (HBQ.out.trans (hb6.mono HBQ.out.size))
          clear hb6
          dsimp only
          refine hK.out _ _ (by trivial) (fun hHeld => ?_)
          clear hK K
          try simp only [Act.put, List.setIfInBounds_toArray, List.set_cons_zero, List.set_cons_succ]
          refine take_to (i := 14) (d := some 80) (v := ?_) (l' := #[true, true, true, true, true, true, true, true, true, true, true, true, true, true, true, false]) rfl rfl (by kernel_rfl) (by kernel_rfl) (by kernel_rfl) (by kernel_rfl) (fun _ _ _ h => h) (Or.inl ⟨by rfl, ?_⟩) (by assumption) ?_; rotate_left; · (intro w' hSw; (try dsimp only at hSw); go_simp; (try with_reducible rfl))
          try simp only [Act.put, List.setIfInBounds_toArray, List.set_cons_zero, List.set_cons_succ]
          refine take_to (i := 15) (d := some 81) (v := ?_) (l' := #[true, true, true, true, true, true, true, true, true, true, true, true, true, true, true, true]) rfl rfl (by kernel_rfl) (by kernel_rfl) (by kernel_rfl) (by kernel_rfl) (fun _ _ _ h => h) (Or.inl ⟨by rfl, ?_⟩) (by assumption) ?_; rotate_left; · (intro w' hSw; (try dsimp only at hSw); go_simp; (try with_reducible rfl))
          try simp only [Act.put, List.setIfInBounds_toArray, List.set_cons_zero, List.set_cons_succ]
          refine wpAnyH_done (by kernel_rfl) ?_ _
          refine NoPanic.normal ?_
          clear hHeld
          have hs' := HS.out
          subst hs'
          go_wp2
          go_roundw
          case rel =>
            rw [show (k : Int) - 2 + 1 = ((k + 1 : Nat) : Int) - 2 by omega]
            exact ⟨k + 1, by omega, rfl, HBQ.out⟩
          case measure => simp [intOf]; omega
    · obtain rfl : k = 69 := by omega
      rw [show (((69 : Nat) : Int) - 2) = 67 from rfl]
      have HBK := Lib.hid hbk
      clear hbk
      go_wp2
      go_loopw [5] (fun nv wr => ∃ m : Nat, (m : Int) ≤ 65536 ∧ nv = .int .i64 (m : Int) ∧ Below w.heap.size w wr) (fun nv _ => (65536 - intOf nv).toNat)
      case atStart => exact ⟨0, by omega, rfl, HBK.out⟩
      case round =>
        clear HBK
        obtain ⟨m, hm, rfl, hbm⟩ := hrel
        have HBM := Lib.hid hbm
        clear hbm
        by_cases hI : (m : Int) < 65536
        · clear hm
          obtain ⟨X, hX⟩ : ∃ X, (m : Int) / 256 = X := ⟨_, rfl⟩
          obtain ⟨Y, hY⟩ : ∃ Y, (m : Int) % 256 = Y := ⟨_, rfl⟩
          have x0 : 0 ≤ X := by omega
          have x1 : X < 256 := by omega
          have y0 : 0 ≤ Y := by omega
          have y1 : Y < 256 := by omega
          have hm8 : (m : Int).tmod 256 = Y := by rw [Int.tmod_eq_emod_of_nonneg (by omega)]; exact hY
          have cv := two_conv wr X Y x0 x1 y0 y1
          have HC := Lib.hid (two_named X Y x0 x1 y0 y1)
          have hcs : (X < 97 ∧ onB (X - 97) (Y - 49) = false) ∨ (105 ≤ X ∧ onB (X - 97) (Y - 49) = false) ∨ (97 ≤ X ∧ X < 105 ∧ ((Y < 49 ∧ onB (X - 97) (Y - 49) = false) ∨ (57 ≤ Y ∧ onB (X - 97) (Y - 49) = false) ∨ (49 ≤ Y ∧ Y < 57 ∧ onB (X - 97) (Y - 49) = true))) := by
            rcases onB_cases (X - 97) (Y - 49) with ⟨h1, h2⟩ | ⟨h1, h2⟩ | ⟨h1, h2, ⟨h3, h4⟩ | ⟨h3, h4⟩ | ⟨h3, h4, h5⟩⟩
            · exact .inl ⟨by omega, h2⟩
            · exact .inr (.inl ⟨by omega, h2⟩)
            · exact .inr (.inr ⟨by omega, by omega, .inl ⟨by omega, h4⟩⟩)
            · exact .inr (.inr ⟨by omega, by omega, .inr (.inl ⟨by omega, h4⟩)⟩)
            · exact .inr (.inr ⟨by omega, by omega, .inr (.inr ⟨by omega, by omega, h5⟩)⟩)
          obtain ⟨b, hb⟩ : ∃ b, onB (X - 97) (Y - 49) = b := ⟨_, rfl⟩
          rw [hb] at hcs HC
          clear hb
          have HCS := Lib.hid hcs
          clear hcs
          go_wp2_with fail
          refine (HC.out _).mono ?_
          rintro e w2 ⟨rfl, hb2⟩
          have HB2 := Lib.hid ((HBM.out.alloc HBM.out.size _).trans (hb2.mono (by simp; have := HBM.out.size; omega)))
          clear hb2 HBM cv HC
          rcases HCS.out with ⟨h1, rfl⟩ | ⟨h1, rfl⟩ | ⟨h1, h2, ⟨h3, rfl⟩ | ⟨h3, rfl⟩ | ⟨h3, h4, rfl⟩⟩
          · clear HCS
            have g0 : decide ((97 : Int) ≤ X) = false := by simp; omega
            go_wp2
            go_roundw
            case rel => exact ⟨m + 1, by push_cast; omega, by push_cast; rfl, HB2.out⟩
            case measure =>
              show ((65536 : Int) - ((m : Int) + 1)).toNat < ((65536 : Int) - (m : Int)).toNat
              omega
          · clear HCS
            have g0 : decide ((97 : Int) ≤ X) = true := by simp; omega
            have g1 : decide (X ≤ (104 : Int)) = false := by simp; omega
            go_wp2
            go_roundw
            case rel => exact ⟨m + 1, by push_cast; omega, by push_cast; rfl, HB2.out⟩
            case measure =>
              show ((65536 : Int) - ((m : Int) + 1)).toNat < ((65536 : Int) - (m : Int)).toNat
              omega
          · clear HCS
            have g0 : decide ((97 : Int) ≤ X) = true := by simp; omega
            have g1 : decide (X ≤ (104 : Int)) = true := by simp; omega
            have g2 : decide ((49 : Int) ≤ Y) = false := by simp; omega
            go_wp2
            go_roundw
            case rel => exact ⟨m + 1, by push_cast; omega, by push_cast; rfl, HB2.out⟩
            case measure =>
              show ((65536 : Int) - ((m : Int) + 1)).toNat < ((65536 : Int) - (m : Int)).toNat
              omega
          · clear HCS
            have g0 : decide ((97 : Int) ≤ X) = true := by simp; omega
            have g1 : decide (X ≤ (104 : Int)) = true := by simp; omega
            have g2 : decide ((49 : Int) ≤ Y) = true := by simp; omega
            have g3 : decide (Y ≤ (56 : Int)) = false := by simp; omega
            go_wp2
            go_roundw
            case rel => exact ⟨m + 1, by push_cast; omega, by push_cast; rfl, HB2.out⟩
            case measure =>
              show ((65536 : Int) - ((m : Int) + 1)).toNat < ((65536 : Int) - (m : Int)).toNat
              omega
          · clear HCS
            have g0 : decide ((97 : Int) ≤ X) = true := by simp; omega
            have g1 : decide (X ≤ (104 : Int)) = true := by simp; omega
            have g2 : decide ((49 : Int) ≤ Y) = true := by simp; omega
            have g3 : decide (Y ≤ (56 : Int)) = true := by simp; omega
            go_wp2
            go_roundw
            case rel => exact ⟨m + 1, by push_cast; omega, by push_cast; rfl, HB2.out⟩
            case measure =>
              show ((65536 : Int) - ((m : Int) + 1)).toNat < ((65536 : Int) - (m : Int)).toNat
              omega
        · have hJ : (m : Int) = 65536 := by omega
          clear hI hm
          rw [hJ]
          clear hJ
          have HE := Lib.hid (sl_at (W := wr) (o := .cells #[.int .i64 (-9223372036854775808), .int .i64 (-64), .int .i64 (-8), .int .i64 (-1), .int .i64 0, .int .i64 7, .int .i64 8, .int .i64 63, .int .i64 64, .int .i64 9223372036854775807] 3) rfl)
          have HBE := Lib.hid (HBM.out.alloc HBM.out.size (.cells #[.int .i64 (-9223372036854775808), .int .i64 (-64), .int .i64 (-8), .int .i64 (-1), .int .i64 0, .int .i64 7, .int .i64 8, .int .i64 63, .int .i64 64, .int .i64 9223372036854775807] 3))
          obtain ⟨E, hE⟩ : ∃ E, E = wr.heap.size := ⟨_, rfl⟩
          rw [← hE] at HE
          go_upto_region 25 with (fail)
          rw [← hE]
          generalize wr.alloc (.cells #[.int .i64 (-9223372036854775808), .int .i64 (-64), .int .i64 (-8), .int .i64 (-1), .int .i64 0, .int .i64 7, .int .i64 8, .int .i64 63, .int .i64 64, .int .i64 9223372036854775807] 3) = V at HE HBE ⊢
          clear HBM hE
          go_wp2
          go_loopw [11] (fun iv wr => ∃ i : Nat, (i : Int) ≤ 10 ∧ iv = .int .i64 (i : Int) ∧ Below w.heap.size w wr ∧ wr.heap[E]? = some (.cells #[.int .i64 (-9223372036854775808), .int .i64 (-64), .int .i64 (-8), .int .i64 (-1), .int .i64 0, .int .i64 7, .int .i64 8, .int .i64 63, .int .i64 64, .int .i64 9223372036854775807] 3 (0, 0))) (fun iv _ => (10 - intOf iv).toNat)
          case atStart => exact ⟨0, by omega, rfl, HBE.out, HE.out⟩
          case round =>
            clear HE HBE
            obtain ⟨i, hi10, rfl, hbi, hei⟩ := hrel
            by_cases hiI : (i : Int) < 10
            · have HBI := Lib.hid hbi
              have HEI := Lib.hid hei
              have di : decide ((i : Int) < 10) = true := by simp; omega
              clear hbi hei hi10
              obtain ⟨wo, hwo⟩ : ∃ wo : World, wo = wr := ⟨_, rfl⟩
              subst hwo
              go_wp2
              go_loopw [12] (fun kv wr => ∃ k : Nat, (k : Int) ≤ 10 ∧ kv = .int .i64 (k : Int) ∧ Below w.heap.size w wr ∧ wr.heap[E]? = some (.cells #[.int .i64 (-9223372036854775808), .int .i64 (-64), .int .i64 (-8), .int .i64 (-1), .int .i64 0, .int .i64 7, .int .i64 8, .int .i64 63, .int .i64 64, .int .i64 9223372036854775807] 3 (0, 0))) (fun kv _ => (10 - intOf kv).toNat)
              case atStart => exact ⟨0, by omega, rfl, HBI.out, HEI.out⟩
              case round =>
                clear HBI HEI
                obtain ⟨k, hk10, rfl, hbk, hek⟩ := hrel
                by_cases hkI : (k : Int) < 10
                · clear hk10
                  obtain ⟨ei, hei, Iei⟩ := ends_at hek i (by omega)
                  obtain ⟨ek, hekk, Iek⟩ := ends_at hek k (by omega)
                  obtain ⟨j, hj⟩ : ∃ j : Nat, ((i : Int) + k) % 10 = (j : Int) := ⟨(i + k) % 10, by omega⟩
                  have hj10 : (j : Int) < 10 := by omega
                  have hwik : IntKind.i64.wrap ((i : Int) + k) = (i : Int) + k := IntWalk.i64_in _ (by omega)
                  have hjt : ((i : Int) + k).tmod 10 = (j : Int) := by rw [Int.tmod_eq_emod_of_nonneg (by omega)]; exact hj
                  obtain ⟨ej, hej, Iej⟩ := ends_at hek j (by omega)
                  have HCE := Lib.hid (And.intro hei (And.intro hekk hej))
                  have HEK := Lib.hid hek
                  have HBK := Lib.hid hbk
                  have II := Lib.hid Iei
                  have IK := Lib.hid Iek
                  have IJ := Lib.hid Iej
                  clear hei hekk hej hek hbk Iei Iek Iej
                  go_upto_region 31 with (fail)
                  refine wp_region_noPanic ?_
                  refine wp_region_start (n := 50) (l := #[false, false, false, false, false, false, false, false, false, false, false, false, false, false, false, false, false, false, false, false, false, false, false, false, false, false, false, false, false, false, false, false, false, false, false, false, false, false, false, false, false, false, false, false, false, false, false, false, false, false]) (S := (fun W => W.cell? ⟨E, i, none⟩ = some (.int .i64 ei) ∧ W.cell? ⟨E, k, none⟩ = some (.int .i64 ek) ∧ W.cell? ⟨E, j, none⟩ = some (.int .i64 ej))) (by kernel_rfl) rfl (by kernel_rfl) (by exact HCE.out) (fun hHeld => ?_)
                  replace HEK := Lib.hid (show wr.drew.heap[E]? = _ from HEK.out)
                  replace HCE := Lib.hid (show wr.drew.cell? ⟨E, i, none⟩ = some (.int .i64 ei) ∧ wr.drew.cell? ⟨E, k, none⟩ = some (.int .i64 ek) ∧ wr.drew.cell? ⟨E, j, none⟩ = some (.int .i64 ej) from HCE.out)
                  replace HBK := Lib.hid HBK.out.drew
                  generalize wr.drew = V' at hHeld HCE HEK HBK ⊢
                  refine take_to (i := 0) (d := some 155) (v := ?_) (l' := #[true, false, false, false, false, false, false, false, false, false, false, false, false, false, false, false, false, false, false, false, false, false, false, false, false, false, false, false, false, false, false, false, false, false, false, false, false, false, false, false, false, false, false, false, false, false, false, false, false, false]) rfl rfl (by kernel_rfl) (by kernel_rfl) (by kernel_rfl) (by kernel_rfl) (fun _ _ _ h => h) (Or.inl ⟨by rfl, ?_⟩) (by assumption) ?_; rotate_left; · (intro w' hSw; (try dsimp only at hSw); go_simp; (try with_reducible rfl))
                  try simp only [Act.put, List.setIfInBounds_toArray, List.set_cons_zero, List.set_cons_succ]
                  refine take_to (i := 1) (d := some 156) (v := ?_) (l' := #[true, true, false, false, false, false, false, false, false, false, false, false, false, false, false, false, false, false, false, false, false, false, false, false, false, false, false, false, false, false, false, false, false, false, false, false, false, false, false, false, false, false, false, false, false, false, false, false, false, false]) rfl rfl (by kernel_rfl) (by kernel_rfl) (by kernel_rfl) (by kernel_rfl) (fun _ _ _ h => h) (Or.inl ⟨by rfl, ?_⟩) (by assumption) ?_; rotate_left; · (intro w' hSw; (try dsimp only at hSw); go_simp; (try with_reducible rfl))
                  try simp only [Act.put, List.setIfInBounds_toArray, List.set_cons_zero, List.set_cons_succ]
                  refine take_to (i := 2) (d := some 157) (v := ?_) (l' := #[true, true, true, false, false, false, false, false, false, false, false, false, false, false, false, false, false, false, false, false, false, false, false, false, false, false, false, false, false, false, false, false, false, false, false, false, false, false, false, false, false, false, false, false, false, false, false, false, false, false]) rfl rfl (by kernel_rfl) (by kernel_rfl) (by kernel_rfl) (by kernel_rfl) (fun _ _ _ h => h) (Or.inl ⟨by rfl, ?_⟩) (by assumption) ?_; rotate_left; · (intro w' hSw; (try dsimp only at hSw); go_simp; (try with_reducible rfl))
                  try simp only [Act.put, List.setIfInBounds_toArray, List.set_cons_zero, List.set_cons_succ]
                  refine take_to (i := 3) (d := some 158) (v := ?_) (l' := #[true, true, true, true, false, false, false, false, false, false, false, false, false, false, false, false, false, false, false, false, false, false, false, false, false, false, false, false, false, false, false, false, false, false, false, false, false, false, false, false, false, false, false, false, false, false, false, false, false, false]) rfl rfl (by kernel_rfl) (by kernel_rfl) (by kernel_rfl) (by kernel_rfl) (fun _ _ _ h => h) (Or.inl ⟨by rfl, ?_⟩) (by assumption) ?_; rotate_left; · (intro w' hSw; (try dsimp only at hSw); go_simp; (try with_reducible rfl))
                  try simp only [Act.put, List.setIfInBounds_toArray, List.set_cons_zero, List.set_cons_succ]
                  refine take_to (i := 4) (d := some 159) (v := ?_) (l' := #[true, true, true, true, true, false, false, false, false, false, false, false, false, false, false, false, false, false, false, false, false, false, false, false, false, false, false, false, false, false, false, false, false, false, false, false, false, false, false, false, false, false, false, false, false, false, false, false, false, false]) rfl rfl (by kernel_rfl) (by kernel_rfl) (by kernel_rfl) (by kernel_rfl) (fun _ _ _ h => h) (Or.inl ⟨by rfl, ?_⟩) (by assumption) ?_; rotate_left; · (intro w' hSw; (try dsimp only at hSw); go_simp; (try with_reducible rfl))
                  try simp only [Act.put, List.setIfInBounds_toArray, List.set_cons_zero, List.set_cons_succ]
                  refine take_to (i := 5) (d := some 160) (v := ?_) (l' := #[true, true, true, true, true, true, false, false, false, false, false, false, false, false, false, false, false, false, false, false, false, false, false, false, false, false, false, false, false, false, false, false, false, false, false, false, false, false, false, false, false, false, false, false, false, false, false, false, false, false]) rfl rfl (by kernel_rfl) (by kernel_rfl) (by kernel_rfl) (by kernel_rfl) (fun _ _ _ h => h) (Or.inl ⟨by rfl, ?_⟩) (by assumption) ?_; rotate_left; · (intro w' hSw; (try dsimp only at hSw); go_simp; (try with_reducible rfl))
                  try simp only [Act.put, List.setIfInBounds_toArray, List.set_cons_zero, List.set_cons_succ]
                  refine take_to (i := 6) (d := some 161) (v := ?_) (l' := #[true, true, true, true, true, true, true, false, false, false, false, false, false, false, false, false, false, false, false, false, false, false, false, false, false, false, false, false, false, false, false, false, false, false, false, false, false, false, false, false, false, false, false, false, false, false, false, false, false, false]) rfl rfl (by kernel_rfl) (by kernel_rfl) (by kernel_rfl) (by kernel_rfl) (fun _ _ _ h => h) (Or.inl ⟨by rfl, ?_⟩) (by assumption) ?_; rotate_left; · (intro w' hSw; (try dsimp only at hSw); go_simp; (try with_reducible rfl))
                  try simp only [Act.put, List.setIfInBounds_toArray, List.set_cons_zero, List.set_cons_succ]
                  refine take_to (i := 7) (d := some 162) (v := ?_) (l' := #[true, true, true, true, true, true, true, true, false, false, false, false, false, false, false, false, false, false, false, false, false, false, false, false, false, false, false, false, false, false, false, false, false, false, false, false, false, false, false, false, false, false, false, false, false, false, false, false, false, false]) rfl rfl (by kernel_rfl) (by kernel_rfl) (by kernel_rfl) (by kernel_rfl) (fun _ _ _ h => h) (Or.inl ⟨by rfl, ?_⟩) (by assumption) ?_; rotate_left; · (intro w' hSw; (try dsimp only at hSw); go_simp; (try with_reducible rfl))
                  try simp only [Act.put, List.setIfInBounds_toArray, List.set_cons_zero, List.set_cons_succ]
                  refine take_to (i := 8) (d := some 163) (v := ?_) (l' := #[true, true, true, true, true, true, true, true, true, false, false, false, false, false, false, false, false, false, false, false, false, false, false, false, false, false, false, false, false, false, false, false, false, false, false, false, false, false, false, false, false, false, false, false, false, false, false, false, false, false]) rfl rfl (by kernel_rfl) (by kernel_rfl) (by kernel_rfl) (by kernel_rfl) (fun _ _ _ h => h) (Or.inl ⟨by rfl, ?_⟩) (by assumption) ?_; rotate_left; · (intro w' hSw; (try dsimp only at hSw); go_simp; (try with_reducible rfl))
                  try simp only [Act.put, List.setIfInBounds_toArray, List.set_cons_zero, List.set_cons_succ]
                  refine take_to (i := 9) (d := some 164) (v := ?_) (l' := #[true, true, true, true, true, true, true, true, true, true, false, false, false, false, false, false, false, false, false, false, false, false, false, false, false, false, false, false, false, false, false, false, false, false, false, false, false, false, false, false, false, false, false, false, false, false, false, false, false, false]) rfl rfl (by kernel_rfl) (by kernel_rfl) (by kernel_rfl) (by kernel_rfl) (fun _ _ _ h => h) (Or.inl ⟨by rfl, ?_⟩) (by assumption) ?_; rotate_left; · (intro w' hSw; (try dsimp only at hSw); go_simp; (try with_reducible rfl))
                  try simp only [Act.put, List.setIfInBounds_toArray, List.set_cons_zero, List.set_cons_succ]
                  refine take_to (i := 10) (d := some 165) (v := ?_) (l' := #[true, true, true, true, true, true, true, true, true, true, true, false, false, false, false, false, false, false, false, false, false, false, false, false, false, false, false, false, false, false, false, false, false, false, false, false, false, false, false, false, false, false, false, false, false, false, false, false, false, false]) rfl rfl (by kernel_rfl) (by kernel_rfl) (by kernel_rfl) (by kernel_rfl) (fun _ _ _ h => h) (Or.inl ⟨by rfl, ?_⟩) (by assumption) ?_; rotate_left; · (intro w' hSw; (try dsimp only at hSw); go_simp; (try with_reducible rfl))
                  try simp only [Act.put, List.setIfInBounds_toArray, List.set_cons_zero, List.set_cons_succ]
                  refine take_to (i := 11) (d := some 166) (v := ?_) (l' := #[true, true, true, true, true, true, true, true, true, true, true, true, false, false, false, false, false, false, false, false, false, false, false, false, false, false, false, false, false, false, false, false, false, false, false, false, false, false, false, false, false, false, false, false, false, false, false, false, false, false]) rfl rfl (by kernel_rfl) (by kernel_rfl) (by kernel_rfl) (by kernel_rfl) (fun _ _ _ h => h) (Or.inl ⟨by rfl, ?_⟩) (by assumption) ?_; rotate_left; · (intro w' hSw; (try dsimp only at hSw); go_simp; (try with_reducible rfl))
                  try simp only [Act.put, List.setIfInBounds_toArray, List.set_cons_zero, List.set_cons_succ]
                  refine take_to (i := 12) (d := some 167) (v := ?_) (l' := #[true, true, true, true, true, true, true, true, true, true, true, true, true, false, false, false, false, false, false, false, false, false, false, false, false, false, false, false, false, false, false, false, false, false, false, false, false, false, false, false, false, false, false, false, false, false, false, false, false, false]) rfl rfl (by kernel_rfl) (by kernel_rfl) (by kernel_rfl) (by kernel_rfl) (fun _ _ _ h => h) (Or.inl ⟨by rfl, ?_⟩) (by assumption) ?_; rotate_left; · (intro w' hSw; (try dsimp only at hSw); go_simp; (try with_reducible rfl))
                  try simp only [Act.put, List.setIfInBounds_toArray, List.set_cons_zero, List.set_cons_succ]
                  refine take_to (i := 13) (d := some 168) (v := ?_) (l' := #[true, true, true, true, true, true, true, true, true, true, true, true, true, true, false, false, false, false, false, false, false, false, false, false, false, false, false, false, false, false, false, false, false, false, false, false, false, false, false, false, false, false, false, false, false, false, false, false, false, false]) rfl rfl (by kernel_rfl) (by kernel_rfl) (by kernel_rfl) (by kernel_rfl) (fun _ _ _ h => h) (Or.inl ⟨by rfl, ?_⟩) (by assumption) ?_; rotate_left; · (intro w' hSw; (try dsimp only at hSw); go_simp; (try with_reducible rfl))
                  try simp only [Act.put, List.setIfInBounds_toArray, List.set_cons_zero, List.set_cons_succ]
                  refine take_to (i := 14) (d := some 169) (v := ?_) (l' := #[true, true, true, true, true, true, true, true, true, true, true, true, true, true, true, false, false, false, false, false, false, false, false, false, false, false, false, false, false, false, false, false, false, false, false, false, false, false, false, false, false, false, false, false, false, false, false, false, false, false]) rfl rfl (by kernel_rfl) (by kernel_rfl) (by kernel_rfl) (by kernel_rfl) (fun _ _ _ h => h) (Or.inl ⟨by rfl, ?_⟩) (by assumption) ?_; rotate_left; · (intro w' hSw; (try dsimp only at hSw); go_simp; (try with_reducible rfl))
                  try simp only [Act.put, List.setIfInBounds_toArray, List.set_cons_zero, List.set_cons_succ]
                  refine take_to (i := 15) (d := some 170) (v := ?_) (l' := #[true, true, true, true, true, true, true, true, true, true, true, true, true, true, true, true, false, false, false, false, false, false, false, false, false, false, false, false, false, false, false, false, false, false, false, false, false, false, false, false, false, false, false, false, false, false, false, false, false, false]) rfl rfl (by kernel_rfl) (by kernel_rfl) (by kernel_rfl) (by kernel_rfl) (fun _ _ _ h => h) (Or.inl ⟨by rfl, ?_⟩) (by assumption) ?_; rotate_left; · (intro w' hSw; (try dsimp only at hSw); go_simp; (try with_reducible rfl))
                  try simp only [Act.put, List.setIfInBounds_toArray, List.set_cons_zero, List.set_cons_succ]
                  refine take_to (i := 16) (d := some 171) (v := ?_) (l' := #[true, true, true, true, true, true, true, true, true, true, true, true, true, true, true, true, true, false, false, false, false, false, false, false, false, false, false, false, false, false, false, false, false, false, false, false, false, false, false, false, false, false, false, false, false, false, false, false, false, false]) rfl rfl (by kernel_rfl) (by kernel_rfl) (by kernel_rfl) (by kernel_rfl) (fun _ _ _ h => h) (Or.inl ⟨by rfl, ?_⟩) (by assumption) ?_; rotate_left; · (intro w' hSw; (try dsimp only at hSw); go_simp; (try with_reducible rfl))
                  try simp only [Act.put, List.setIfInBounds_toArray, List.set_cons_zero, List.set_cons_succ]
                  refine take_to (i := 17) (d := some 172) (v := ?_) (l' := #[true, true, true, true, true, true, true, true, true, true, true, true, true, true, true, true, true, true, false, false, false, false, false, false, false, false, false, false, false, false, false, false, false, false, false, false, false, false, false, false, false, false, false, false, false, false, false, false, false, false]) rfl rfl (by kernel_rfl) (by kernel_rfl) (by kernel_rfl) (by kernel_rfl) (fun _ _ _ h => h) (Or.inl ⟨by rfl, ?_⟩) (by assumption) ?_; rotate_left; · (intro w' hSw; (try dsimp only at hSw); go_simp; (try with_reducible rfl))
                  try simp only [Act.put, List.setIfInBounds_toArray, List.set_cons_zero, List.set_cons_succ]
                  refine take_to (i := 18) (d := some 173) (v := ?_) (l' := #[true, true, true, true, true, true, true, true, true, true, true, true, true, true, true, true, true, true, true, false, false, false, false, false, false, false, false, false, false, false, false, false, false, false, false, false, false, false, false, false, false, false, false, false, false, false, false, false, false, false]) rfl rfl (by kernel_rfl) (by kernel_rfl) (by kernel_rfl) (by kernel_rfl) (fun _ _ _ h => h) (Or.inl ⟨by rfl, ?_⟩) (by assumption) ?_; rotate_left; · (intro w' hSw; (try dsimp only at hSw); go_simp; (try with_reducible rfl))
                  try simp only [Act.put, List.setIfInBounds_toArray, List.set_cons_zero, List.set_cons_succ]
                  refine take_to (i := 19) (d := some 174) (v := ?_) (l' := #[true, true, true, true, true, true, true, true, true, true, true, true, true, true, true, true, true, true, true, true, false, false, false, false, false, false, false, false, false, false, false, false, false, false, false, false, false, false, false, false, false, false, false, false, false, false, false, false, false, false]) rfl rfl (by kernel_rfl) (by kernel_rfl) (by kernel_rfl) (by kernel_rfl) (fun _ _ _ h => h) (Or.inl ⟨by rfl, ?_⟩) (by assumption) ?_; rotate_left; · (intro w' hSw; (try dsimp only at hSw); go_simp; (try with_reducible rfl))
                  try simp only [Act.put, List.setIfInBounds_toArray, List.set_cons_zero, List.set_cons_succ]
                  refine take_to (i := 20) (d := some 175) (v := ?_) (l' := #[true, true, true, true, true, true, true, true, true, true, true, true, true, true, true, true, true, true, true, true, true, false, false, false, false, false, false, false, false, false, false, false, false, false, false, false, false, false, false, false, false, false, false, false, false, false, false, false, false, false]) rfl rfl (by kernel_rfl) (by kernel_rfl) (by kernel_rfl) (by kernel_rfl) (fun _ _ _ h => h) (Or.inl ⟨by rfl, ?_⟩) (by assumption) ?_; rotate_left; · (intro w' hSw; (try dsimp only at hSw); go_simp; (try with_reducible rfl))
                  try simp only [Act.put, List.setIfInBounds_toArray, List.set_cons_zero, List.set_cons_succ]
                  refine take_to (i := 21) (d := some 176) (v := ?_) (l' := #[true, true, true, true, true, true, true, true, true, true, true, true, true, true, true, true, true, true, true, true, true, true, false, false, false, false, false, false, false, false, false, false, false, false, false, false, false, false, false, false, false, false, false, false, false, false, false, false, false, false]) rfl rfl (by kernel_rfl) (by kernel_rfl) (by kernel_rfl) (by kernel_rfl) (fun _ _ _ h => h) (Or.inl ⟨by rfl, ?_⟩) (by assumption) ?_; rotate_left; · (intro w' hSw; (try dsimp only at hSw); go_simp; (try with_reducible rfl))
                  try simp only [Act.put, List.setIfInBounds_toArray, List.set_cons_zero, List.set_cons_succ]
                  refine take_to (i := 22) (d := some 177) (v := ?_) (l' := #[true, true, true, true, true, true, true, true, true, true, true, true, true, true, true, true, true, true, true, true, true, true, true, false, false, false, false, false, false, false, false, false, false, false, false, false, false, false, false, false, false, false, false, false, false, false, false, false, false, false]) rfl rfl (by kernel_rfl) (by kernel_rfl) (by kernel_rfl) (by kernel_rfl) (fun _ _ _ h => h) (Or.inl ⟨by rfl, ?_⟩) (by assumption) ?_; rotate_left; · (intro w' hSw; (try dsimp only at hSw); go_simp; (try with_reducible rfl))
                  try simp only [Act.put, List.setIfInBounds_toArray, List.set_cons_zero, List.set_cons_succ]
                  refine take_to (i := 23) (d := some 178) (v := ?_) (l' := #[true, true, true, true, true, true, true, true, true, true, true, true, true, true, true, true, true, true, true, true, true, true, true, true, false, false, false, false, false, false, false, false, false, false, false, false, false, false, false, false, false, false, false, false, false, false, false, false, false, false]) rfl rfl (by kernel_rfl) (by kernel_rfl) (by kernel_rfl) (by kernel_rfl) (fun _ _ _ h => h) (Or.inl ⟨by rfl, ?_⟩) (by assumption) ?_; rotate_left; · (intro w' hSw; (try dsimp only at hSw); go_simp; (try with_reducible rfl))
                  try simp only [Act.put, List.setIfInBounds_toArray, List.set_cons_zero, List.set_cons_succ]
                  refine one_to (i := 24) (l' := #[true, true, true, true, true, true, true, true, true, true, true, true, true, true, true, true, true, true, true, true, true, true, true, true, true, false, false, false, false, false, false, false, false, false, false, false, false, false, false, false, false, false, false, false, false, false, false, false, false, false]) rfl (by kernel_rfl) (by kernel_rfl) (fun K hK => ?_)
                  go_simp
                  have HP1 := Lib.hid (al_new HBK.out (.cells #[.int .i64 ek, .int .i64 ei] 36))
                  have hlt1 := al_lt HEK.out
                  replace HCE := Lib.hid (cells3_go HCE.out hlt1 (below_new (w := V') (.cells #[.int .i64 ek, .int .i64 ei] 36)))
                  replace HEK := Lib.hid (al_old HEK.out (.cells #[.int .i64 ek, .int .i64 ei] 36))
                  replace HBK := Lib.hid (HBK.out.alloc HBK.out.size (.cells #[.int .i64 ek, .int .i64 ei] 36))
                  clear hlt1
                  refine hK.out _ _ (by exact HCE.out) (fun hHeld => ?_)
                  clear hK K
                  try simp only [Act.put, List.setIfInBounds_toArray, List.set_cons_zero, List.set_cons_succ]
                  refine one_to (i := 25) (l' := #[true, true, true, true, true, true, true, true, true, true, true, true, true, true, true, true, true, true, true, true, true, true, true, true, true, true, false, false, false, false, false, false, false, false, false, false, false, false, false, false, false, false, false, false, false, false, false, false, false, false]) rfl (by kernel_rfl) (by kernel_rfl) (fun K hK => ?_)
                  go_simp
                  refine (call_one ei ek ej ek ei IK.out IJ.out IK.out II.out _ V'.heap.size HP1.out).mono ?_
                  rintro e w3 ⟨rfl, hb3⟩
                  have hlt1 := al_lt HEK.out
                  replace HCE := Lib.hid (cells3_go HCE.out hlt1 hb3)
                  replace HEK := Lib.hid (sl_go HEK.out hb3)
                  replace HBK := Lib.hid (HBK.out.trans (hb3.mono HBK.out.size))
                  clear hb3 hlt1 HP1
                  dsimp only
                  refine hK.out _ _ (by exact HCE.out) (fun hHeld => ?_)
                  clear hK K
                  try simp only [Act.put, List.setIfInBounds_toArray, List.set_cons_zero, List.set_cons_succ]
                  refine take_to (i := 26) (d := some 181) (v := ?_) (l' := #[true, true, true, true, true, true, true, true, true, true, true, true, true, true, true, true, true, true, true, true, true, true, true, true, true, true, true, false, false, false, false, false, false, false, false, false, false, false, false, false, false, false, false, false, false, false, false, false, false, false]) rfl rfl (by kernel_rfl) (by kernel_rfl) (by kernel_rfl) (by kernel_rfl) (fun _ _ _ h => h) (Or.inl ⟨by rfl, ?_⟩) (by assumption) ?_; rotate_left; · (intro w' hSw; (try dsimp only at hSw); go_simp; (try with_reducible rfl))
                  try simp only [Act.put, List.setIfInBounds_toArray, List.set_cons_zero, List.set_cons_succ]
                  refine take_to (i := 27) (d := some 182) (v := ?_) (l' := #[true, true, true, true, true, true, true, true, true, true, true, true, true, true, true, true, true, true, true, true, true, true, true, true, true, true, true, true, false, false, false, false, false, false, false, false, false, false, false, false, false, false, false, false, false, false, false, false, false, false]) rfl rfl (by kernel_rfl) (by kernel_rfl) (by kernel_rfl) (by kernel_rfl) (fun _ _ _ h => h) (Or.inl ⟨by rfl, ?_⟩) (by assumption) ?_; rotate_left; · (intro w' hSw; (try dsimp only at hSw); go_simp; (try with_reducible rfl))
                  try simp only [Act.put, List.setIfInBounds_toArray, List.set_cons_zero, List.set_cons_succ]
                  refine take_to (i := 28) (d := some 183) (v := ?_) (l' := #[true, true, true, true, true, true, true, true, true, true, true, true, true, true, true, true, true, true, true, true, true, true, true, true, true, true, true, true, true, false, false, false, false, false, false, false, false, false, false, false, false, false, false, false, false, false, false, false, false, false]) rfl rfl (by kernel_rfl) (by kernel_rfl) (by kernel_rfl) (by kernel_rfl) (fun _ _ _ h => h) (Or.inl ⟨by rfl, ?_⟩) (by assumption) ?_; rotate_left; · (intro w' hSw; (try dsimp only at hSw); go_simp; (try with_reducible rfl))
                  try simp only [Act.put, List.setIfInBounds_toArray, List.set_cons_zero, List.set_cons_succ]
                  refine take_to (i := 29) (d := some 184) (v := ?_) (l' := #[true, true, true, true, true, true, true, true, true, true, true, true, true, true, true, true, true, true, true, true, true, true, true, true, true, true, true, true, true, true, false, false, false, false, false, false, false, false, false, false, false, false, false, false, false, false, false, false, false, false]) rfl rfl (by kernel_rfl) (by kernel_rfl) (by kernel_rfl) (by kernel_rfl) (fun _ _ _ h => h) (Or.inl ⟨by rfl, ?_⟩) (by assumption) ?_; rotate_left; · (intro w' hSw; (try dsimp only at hSw); go_simp; (try with_reducible rfl))
                  try simp only [Act.put, List.setIfInBounds_toArray, List.set_cons_zero, List.set_cons_succ]
                  refine take_to (i := 30) (d := some 185) (v := ?_) (l' := #[true, true, true, true, true, true, true, true, true, true, true, true, true, true, true, true, true, true, true, true, true, true, true, true, true, true, true, true, true, true, true, false, false, false, false, false, false, false, false, false, false, false, false, false, false, false, false, false, false, false]) rfl rfl (by kernel_rfl) (by kernel_rfl) (by kernel_rfl) (by kernel_rfl) (fun _ _ _ h => h) (Or.inl ⟨by rfl, ?_⟩) (by assumption) ?_; rotate_left; · (intro w' hSw; (try dsimp only at hSw); go_simp; (try with_reducible rfl))
                  try simp only [Act.put, List.setIfInBounds_toArray, List.set_cons_zero, List.set_cons_succ]
                  refine take_to (i := 31) (d := some 186) (v := ?_) (l' := #[true, true, true, true, true, true, true, true, true, true, true, true, true, true, true, true, true, true, true, true, true, true, true, true, true, true, true, true, true, true, true, true, false, false, false, false, false, false, false, false, false, false, false, false, false, false, false, false, false, false]) rfl rfl (by kernel_rfl) (by kernel_rfl) (by kernel_rfl) (by kernel_rfl) (fun _ _ _ h => h) (Or.inl ⟨by rfl, ?_⟩) (by assumption) ?_; rotate_left; · (intro w' hSw; (try dsimp only at hSw); go_simp; (try with_reducible rfl))
                  try simp only [Act.put, List.setIfInBounds_toArray, List.set_cons_zero, List.set_cons_succ]
                  refine take_to (i := 32) (d := some 187) (v := ?_) (l' := #[true, true, true, true, true, true, true, true, true, true, true, true, true, true, true, true, true, true, true, true, true, true, true, true, true, true, true, true, true, true, true, true, true, false, false, false, false, false, false, false, false, false, false, false, false, false, false, false, false, false]) rfl rfl (by kernel_rfl) (by kernel_rfl) (by kernel_rfl) (by kernel_rfl) (fun _ _ _ h => h) (Or.inl ⟨by rfl, ?_⟩) (by assumption) ?_; rotate_left; · (intro w' hSw; (try dsimp only at hSw); go_simp; (try with_reducible rfl))
                  try simp only [Act.put, List.setIfInBounds_toArray, List.set_cons_zero, List.set_cons_succ]
                  refine take_to (i := 33) (d := some 188) (v := ?_) (l' := #[true, true, true, true, true, true, true, true, true, true, true, true, true, true, true, true, true, true, true, true, true, true, true, true, true, true, true, true, true, true, true, true, true, true, false, false, false, false, false, false, false, false, false, false, false, false, false, false, false, false]) rfl rfl (by kernel_rfl) (by kernel_rfl) (by kernel_rfl) (by kernel_rfl) (fun _ _ _ h => h) (Or.inl ⟨by rfl, ?_⟩) (by assumption) ?_; rotate_left; · (intro w' hSw; (try dsimp only at hSw); go_simp; (try with_reducible rfl))
                  try simp only [Act.put, List.setIfInBounds_toArray, List.set_cons_zero, List.set_cons_succ]
                  refine take_to (i := 34) (d := some 189) (v := ?_) (l' := #[true, true, true, true, true, true, true, true, true, true, true, true, true, true, true, true, true, true, true, true, true, true, true, true, true, true, true, true, true, true, true, true, true, true, true, false, false, false, false, false, false, false, false, false, false, false, false, false, false, false]) rfl rfl (by kernel_rfl) (by kernel_rfl) (by kernel_rfl) (by kernel_rfl) (fun _ _ _ h => h) (Or.inl ⟨by rfl, ?_⟩) (by assumption) ?_; rotate_left; · (intro w' hSw; (try dsimp only at hSw); go_simp; (try with_reducible rfl))
                  try simp only [Act.put, List.setIfInBounds_toArray, List.set_cons_zero, List.set_cons_succ]
                  refine take_to (i := 35) (d := some 190) (v := ?_) (l' := #[true, true, true, true, true, true, true, true, true, true, true, true, true, true, true, true, true, true, true, true, true, true, true, true, true, true, true, true, true, true, true, true, true, true, true, true, false, false, false, false, false, false, false, false, false, false, false, false, false, false]) rfl rfl (by kernel_rfl) (by kernel_rfl) (by kernel_rfl) (by kernel_rfl) (fun _ _ _ h => h) (Or.inl ⟨by rfl, ?_⟩) (by assumption) ?_; rotate_left; · (intro w' hSw; (try dsimp only at hSw); go_simp; (try with_reducible rfl))
                  try simp only [Act.put, List.setIfInBounds_toArray, List.set_cons_zero, List.set_cons_succ]
                  refine take_to (i := 36) (d := some 191) (v := ?_) (l' := #[true, true, true, true, true, true, true, true, true, true, true, true, true, true, true, true, true, true, true, true, true, true, true, true, true, true, true, true, true, true, true, true, true, true, true, true, true, false, false, false, false, false, false, false, false, false, false, false, false, false]) rfl rfl (by kernel_rfl) (by kernel_rfl) (by kernel_rfl) (by kernel_rfl) (fun _ _ _ h => h) (Or.inl ⟨by rfl, ?_⟩) (by assumption) ?_; rotate_left; · (intro w' hSw; (try dsimp only at hSw); go_simp; (try with_reducible rfl))
                  try simp only [Act.put, List.setIfInBounds_toArray, List.set_cons_zero, List.set_cons_succ]
                  refine take_to (i := 37) (d := some 192) (v := ?_) (l' := #[true, true, true, true, true, true, true, true, true, true, true, true, true, true, true, true, true, true, true, true, true, true, true, true, true, true, true, true, true, true, true, true, true, true, true, true, true, true, false, false, false, false, false, false, false, false, false, false, false, false]) rfl rfl (by kernel_rfl) (by kernel_rfl) (by kernel_rfl) (by kernel_rfl) (fun _ _ _ h => h) (Or.inl ⟨by rfl, ?_⟩) (by assumption) ?_; rotate_left; · (intro w' hSw; (try dsimp only at hSw); go_simp; (try with_reducible rfl))
                  try simp only [Act.put, List.setIfInBounds_toArray, List.set_cons_zero, List.set_cons_succ]
                  refine take_to (i := 38) (d := some 193) (v := ?_) (l' := #[true, true, true, true, true, true, true, true, true, true, true, true, true, true, true, true, true, true, true, true, true, true, true, true, true, true, true, true, true, true, true, true, true, true, true, true, true, true, true, false, false, false, false, false, false, false, false, false, false, false]) rfl rfl (by kernel_rfl) (by kernel_rfl) (by kernel_rfl) (by kernel_rfl) (fun _ _ _ h => h) (Or.inl ⟨by rfl, ?_⟩) (by assumption) ?_; rotate_left; · (intro w' hSw; (try dsimp only at hSw); go_simp; (try with_reducible rfl))
                  try simp only [Act.put, List.setIfInBounds_toArray, List.set_cons_zero, List.set_cons_succ]
                  refine take_to (i := 39) (d := some 194) (v := ?_) (l' := #[true, true, true, true, true, true, true, true, true, true, true, true, true, true, true, true, true, true, true, true, true, true, true, true, true, true, true, true, true, true, true, true, true, true, true, true, true, true, true, true, false, false, false, false, false, false, false, false, false, false]) rfl rfl (by kernel_rfl) (by kernel_rfl) (by kernel_rfl) (by kernel_rfl) (fun _ _ _ h => h) (Or.inl ⟨by rfl, ?_⟩) (by assumption) ?_; rotate_left; · (intro w' hSw; (try dsimp only at hSw); go_simp; (try with_reducible rfl))
                  try simp only [Act.put, List.setIfInBounds_toArray, List.set_cons_zero, List.set_cons_succ]
                  refine take_to (i := 40) (d := some 195) (v := ?_) (l' := #[true, true, true, true, true, true, true, true, true, true, true, true, true, true, true, true, true, true, true, true, true, true, true, true, true, true, true, true, true, true, true, true, true, true, true, true, true, true, true, true, true, false, false, false, false, false, false, false, false, false]) rfl rfl (by kernel_rfl) (by kernel_rfl) (by kernel_rfl) (by kernel_rfl) (fun _ _ _ h => h) (Or.inl ⟨by rfl, ?_⟩) (by assumption) ?_; rotate_left; · (intro w' hSw; (try dsimp only at hSw); go_simp; (try with_reducible rfl))
                  try simp only [Act.put, List.setIfInBounds_toArray, List.set_cons_zero, List.set_cons_succ]
                  refine take_to (i := 41) (d := some 196) (v := ?_) (l' := #[true, true, true, true, true, true, true, true, true, true, true, true, true, true, true, true, true, true, true, true, true, true, true, true, true, true, true, true, true, true, true, true, true, true, true, true, true, true, true, true, true, true, false, false, false, false, false, false, false, false]) rfl rfl (by kernel_rfl) (by kernel_rfl) (by kernel_rfl) (by kernel_rfl) (fun _ _ _ h => h) (Or.inl ⟨by rfl, ?_⟩) (by assumption) ?_; rotate_left; · (intro w' hSw; (try dsimp only at hSw); go_simp; (try with_reducible rfl))
                  try simp only [Act.put, List.setIfInBounds_toArray, List.set_cons_zero, List.set_cons_succ]
                  refine take_to (i := 42) (d := some 197) (v := ?_) (l' := #[true, true, true, true, true, true, true, true, true, true, true, true, true, true, true, true, true, true, true, true, true, true, true, true, true, true, true, true, true, true, true, true, true, true, true, true, true, true, true, true, true, true, true, false, false, false, false, false, false, false]) rfl rfl (by kernel_rfl) (by kernel_rfl) (by kernel_rfl) (by kernel_rfl) (fun _ _ _ h => h) (Or.inl ⟨by rfl, ?_⟩) (by assumption) ?_; rotate_left; · (intro w' hSw; (try dsimp only at hSw); go_simp; (try with_reducible rfl))
                  try simp only [Act.put, List.setIfInBounds_toArray, List.set_cons_zero, List.set_cons_succ]
                  refine take_to (i := 43) (d := some 198) (v := ?_) (l' := #[true, true, true, true, true, true, true, true, true, true, true, true, true, true, true, true, true, true, true, true, true, true, true, true, true, true, true, true, true, true, true, true, true, true, true, true, true, true, true, true, true, true, true, true, false, false, false, false, false, false]) rfl rfl (by kernel_rfl) (by kernel_rfl) (by kernel_rfl) (by kernel_rfl) (fun _ _ _ h => h) (Or.inl ⟨by rfl, ?_⟩) (by assumption) ?_; rotate_left; · (intro w' hSw; (try dsimp only at hSw); go_simp; (try with_reducible rfl))
                  try simp only [Act.put, List.setIfInBounds_toArray, List.set_cons_zero, List.set_cons_succ]
                  refine take_to (i := 44) (d := some 199) (v := ?_) (l' := #[true, true, true, true, true, true, true, true, true, true, true, true, true, true, true, true, true, true, true, true, true, true, true, true, true, true, true, true, true, true, true, true, true, true, true, true, true, true, true, true, true, true, true, true, true, false, false, false, false, false]) rfl rfl (by kernel_rfl) (by kernel_rfl) (by kernel_rfl) (by kernel_rfl) (fun _ _ _ h => h) (Or.inl ⟨by rfl, ?_⟩) (by assumption) ?_; rotate_left; · (intro w' hSw; (try dsimp only at hSw); go_simp; (try with_reducible rfl))
                  try simp only [Act.put, List.setIfInBounds_toArray, List.set_cons_zero, List.set_cons_succ]
                  refine take_to (i := 45) (d := some 200) (v := ?_) (l' := #[true, true, true, true, true, true, true, true, true, true, true, true, true, true, true, true, true, true, true, true, true, true, true, true, true, true, true, true, true, true, true, true, true, true, true, true, true, true, true, true, true, true, true, true, true, true, false, false, false, false]) rfl rfl (by kernel_rfl) (by kernel_rfl) (by kernel_rfl) (by kernel_rfl) (fun _ _ _ h => h) (Or.inl ⟨by rfl, ?_⟩) (by assumption) ?_; rotate_left; · (intro w' hSw; (try dsimp only at hSw); go_simp; (try with_reducible rfl))
                  try simp only [Act.put, List.setIfInBounds_toArray, List.set_cons_zero, List.set_cons_succ]
                  refine one_to (i := 46) (l' := #[true, true, true, true, true, true, true, true, true, true, true, true, true, true, true, true, true, true, true, true, true, true, true, true, true, true, true, true, true, true, true, true, true, true, true, true, true, true, true, true, true, true, true, true, true, true, true, false, false, false]) rfl (by kernel_rfl) (by kernel_rfl) (fun K hK => ?_)
                  go_simp
                  have HP2 := Lib.hid (al_new HBK.out (.cells #[.int .i64 ei, .int .i64 0, .int .i64 0, .int .i64 ek] 36))
                  have hlt1 := al_lt HEK.out
                  replace HCE := Lib.hid (cells3_go HCE.out hlt1 (below_new (w := w3) (.cells #[.int .i64 ei, .int .i64 0, .int .i64 0, .int .i64 ek] 36)))
                  replace HEK := Lib.hid (al_old HEK.out (.cells #[.int .i64 ei, .int .i64 0, .int .i64 0, .int .i64 ek] 36))
                  replace HBK := Lib.hid (HBK.out.alloc HBK.out.size (.cells #[.int .i64 ei, .int .i64 0, .int .i64 0, .int .i64 ek] 36))
                  clear hlt1
                  refine hK.out _ _ (by exact HCE.out) (fun hHeld => ?_)
                  clear hK K
                  try simp only [Act.put, List.setIfInBounds_toArray, List.set_cons_zero, List.set_cons_succ]
                  refine one_to (i := 47) (l' := #[true, true, true, true, true, true, true, true, true, true, true, true, true, true, true, true, true, true, true, true, true, true, true, true, true, true, true, true, true, true, true, true, true, true, true, true, true, true, true, true, true, true, true, true, true, true, true, true, false, false]) rfl (by kernel_rfl) (by kernel_rfl) (fun K hK => ?_)
                  go_simp
                  refine (call_two ei ek ei ek II.out IK.out II.out IK.out _ w3.heap.size HP2.out).mono ?_
                  rintro e w4 ⟨rfl, hb4⟩
                  have hlt1 := al_lt HEK.out
                  replace HCE := Lib.hid (cells3_go HCE.out hlt1 hb4)
                  replace HEK := Lib.hid (sl_go HEK.out hb4)
                  replace HBK := Lib.hid (HBK.out.trans (hb4.mono HBK.out.size))
                  clear hb4 hlt1 HP2
                  dsimp only
                  refine hK.out _ _ (by exact HCE.out) (fun hHeld => ?_)
                  clear hK K
                  try simp only [Act.put, List.setIfInBounds_toArray, List.set_cons_zero, List.set_cons_succ]
                  refine take_to (i := 48) (d := some 203) (v := ?_) (l' := #[true, true, true, true, true, true, true, true, true, true, true, true, true, true, true, true, true, true, true, true, true, true, true, true, true, true, true, true, true, true, true, true, true, true, true, true, true, true, true, true, true, true, true, true, true, true, true, true, true, false]) rfl rfl (by kernel_rfl) (by kernel_rfl) (by kernel_rfl) (by kernel_rfl) (fun _ _ _ h => h) (Or.inl ⟨by rfl, ?_⟩) (by assumption) ?_; rotate_left; · (intro w' hSw; (try dsimp only at hSw); go_simp; (try with_reducible rfl))
                  try simp only [Act.put, List.setIfInBounds_toArray, List.set_cons_zero, List.set_cons_succ]
                  refine take_to (i := 49) (d := some 204) (v := ?_) (l' := #[true, true, true, true, true, true, true, true, true, true, true, true, true, true, true, true, true, true, true, true, true, true, true, true, true, true, true, true, true, true, true, true, true, true, true, true, true, true, true, true, true, true, true, true, true, true, true, true, true, true]) rfl rfl (by kernel_rfl) (by kernel_rfl) (by kernel_rfl) (by kernel_rfl) (fun _ _ _ h => h) (Or.inl ⟨by rfl, ?_⟩) (by assumption) ?_; rotate_left; · (intro w' hSw; (try dsimp only at hSw); go_simp; (try with_reducible rfl))
                  try simp only [Act.put, List.setIfInBounds_toArray, List.set_cons_zero, List.set_cons_succ]
                  refine wpAnyH_done (by kernel_rfl) ?_ _
                  refine NoPanic.normal ?_
                  clear hHeld
                  clear HCE
                  go_wp2
                  go_roundw
                  case rel => exact ⟨k + 1, by push_cast; omega, by push_cast; rfl, HBK.out, HEK.out⟩
                  case measure =>
                    show ((10 : Int) - ((k : Int) + 1)).toNat < ((10 : Int) - (k : Int)).toNat
                    omega
                · have hkJ : (k : Int) = 10 := by omega
                  clear hkI hk10
                  rw [hkJ]
                  clear hkJ
                  have HBK := Lib.hid hbk
                  have HEK := Lib.hid hek
                  clear hbk hek
                  go_wp2
                  go_roundw
                  case rel => exact ⟨i + 1, by push_cast; omega, by push_cast; rfl, HBK.out, HEK.out⟩
                  case measure =>
                    show ((10 : Int) - ((i : Int) + 1)).toNat < ((10 : Int) - (i : Int)).toNat
                    omega
            · have hiJ : (i : Int) = 10 := by omega
              clear hiI hi10
              rw [hiJ]
              clear hiJ
              have HBI := Lib.hid hbi
              clear hbi hei
              go_wp2_with fail
              refine (awakeS_any _).mono ?_
              rintro e w9 ⟨rfl, hb9⟩
              go_wp2
              go_ret
              exact ⟨rfl, HBI.out.trans (hb9.mono HBI.out.size)⟩
end Go.Proofs.Ytaiihdkcpbkmaaa
