/-
  The walks of the laws BitsBytes and BitsBack.
-/
import Derived.Test.YtgkaoagalifklaaRefBytes
import Derived.Test.YtgkaoagalifklaaPlaces
namespace Go.Proofs.Ytgkaoagalifklaa
open Go.RowKit
set_option linter.unusedVariables false

theorem push8 (x : BitVec 32) (b : BitVec 8) (hx : x.toNat < 16777216) : (x <<< 8 ||| b.setWidth 32).toNat = x.toNat * 256 + b.toNat := by
  have hb := b.isLt
  rw [BitVec.toNat_or, BitVec.toNat_shiftLeft, BitVec.toNat_setWidth, Nat.shiftLeft_eq, Nat.mod_eq_of_lt (by omega), Nat.mod_eq_of_lt (by omega), ← Nat.shiftLeft_eq, ← Nat.shiftLeft_add_eq_or_of_lt hb, Nat.shiftLeft_eq]
theorem bw_nat (g : Nat → BitVec 8) (n : Nat) : (bw g n).toNat = (((g (4 * n)).toNat * 256 + (g (4 * n + 1)).toNat) * 256 + (g (4 * n + 2)).toNat) * 256 + (g (4 * n + 3)).toNat := by
  have h0 := (g (4 * n)).isLt
  have h1 := (g (4 * n + 1)).isLt
  have h2 := (g (4 * n + 2)).isLt
  have h3 := (g (4 * n + 3)).isLt
  have e1 : (bwTo g n 1).toNat = (g (4 * n)).toNat := by
    simp only [bwTo]; rw [push8 _ _ (by decide)]; simp
  have e2 : (bwTo g n 2).toNat = (g (4 * n)).toNat * 256 + (g (4 * n + 1)).toNat := by
    show (bwTo g n 1 <<< 8 ||| _).toNat = _
    rw [push8 _ _ (by omega), e1]
  have e3 : (bwTo g n 3).toNat = ((g (4 * n)).toNat * 256 + (g (4 * n + 1)).toNat) * 256 + (g (4 * n + 2)).toNat := by
    show (bwTo g n 2 <<< 8 ||| _).toNat = _
    rw [push8 _ _ (by omega), e2]
  show (bwTo g n 3 <<< 8 ||| _).toNat = _
  rw [push8 _ _ (by omega), e3]
theorem mul_nat (b : BitVec 8) (c : Nat) (hc : c ≤ 16777216) : (b.setWidth 32 * BitVec.ofNat 32 c).toNat = b.toNat * c := by
  have hb := b.isLt
  have h1 : b.toNat * c ≤ 255 * 16777216 := Nat.mul_le_mul (by omega) hc
  rw [BitVec.toNat_mul, BitVec.toNat_setWidth, BitVec.toNat_ofNat, Nat.mod_eq_of_lt (show b.toNat < 2 ^ 32 by omega), Nat.mod_eq_of_lt (show c < 2 ^ 32 by omega), Nat.mod_eq_of_lt (by omega)]
theorem add_nat (x y : BitVec 32) (m n : Nat) (hx : x.toNat = m) (hy : y.toNat = n) (h : m + n < 4294967296) : (x + y).toNat = m + n := by
  rw [BitVec.toNat_add, hx, hy, Nat.mod_eq_of_lt h]
theorem dw_bw (g : Nat → BitVec 8) (n : Nat) : dw g n = bw g n := by
  apply BitVec.eq_of_toNat_eq
  rw [bw_nat]
  have h0 := (g (4 * n)).isLt
  have h1 := (g (4 * n + 1)).isLt
  have h2 := (g (4 * n + 2)).isLt
  have h3 := (g (4 * n + 3)).isLt
  have p0 := mul_nat (g (4 * n)) 16777216 (by omega)
  have p1 := mul_nat (g (4 * n + 1)) 65536 (by omega)
  have p2 := mul_nat (g (4 * n + 2)) 256 (by omega)
  have p3 : ((g (4 * n + 3)).setWidth 32).toNat = (g (4 * n + 3)).toNat := by rw [BitVec.toNat_setWidth, Nat.mod_eq_of_lt (by omega)]
  have q1 := add_nat _ _ _ _ p0 p1 (by omega)
  have q2 := add_nat _ _ _ _ q1 p2 (by omega)
  have q3 := add_nat _ _ _ _ q2 p3 (by omega)
  unfold dw
  rw [q3]
  omega
theorem wb_nat (f : Nat → BitVec 32) (k m : Nat) (hm : m < 4) : (wb f (4 * k + m)).toNat = (f k).toNat / 2 ^ (24 - 8 * m) % 256 := by
  rw [wb_at f k m hm, BitVec.toNat_setWidth, BitVec.toNat_ushiftRight, Nat.shiftRight_eq_div_pow]
theorem bw_wb (f : Nat → BitVec 32) (k : Nat) : bw (wb f) k = f k := by
  apply BitVec.eq_of_toNat_eq
  have h := (f k).isLt
  have e0 := wb_nat f k 0 (by omega)
  have e1 := wb_nat f k 1 (by omega)
  have e2 := wb_nat f k 2 (by omega)
  have e3 := wb_nat f k 3 (by omega)
  rw [bw_nat, e1, e2, e3, show 4 * k = 4 * k + 0 from rfl, e0]
  omega
theorem wb_bw (g : Nat → BitVec 8) (j : Nat) : wb (bw g) j = g j := by
  apply BitVec.eq_of_toNat_eq
  obtain ⟨k, m, hm, rfl⟩ : ∃ k m, m < 4 ∧ j = 4 * k + m := ⟨j / 4, j % 4, by omega, by omega⟩
  rw [wb_nat _ _ _ hm, bw_nat]
  have h0 := (g (4 * k)).isLt
  have h1 := (g (4 * k + 1)).isLt
  have h2 := (g (4 * k + 2)).isLt
  have h3 := (g (4 * k + 3)).isLt
  match m, hm with
  | 0, _ => show _ / 16777216 % 256 = (g (4 * k)).toNat; omega
  | 1, _ => show _ / 65536 % 256 = _; omega
  | 2, _ => show _ / 256 % 256 = _; omega
  | 3, _ => show _ / 1 % 256 = _; omega

theorem own_below {w w' : World} {base : Nat} {e : TypeId} {size : Nat} {v : Value} {n : Nat} {xs : List Value} (h : w.ownsRow base e size v n xs) (hb : Below w.heap.size w w') : w'.ownsRow base e size v n xs :=
  h.kept (row := none) ⟨hb.os, hb.tape, hb.output, hb.size, fun k hk _ => hb.block k hk⟩ (by cases e : v.ownBlock <;> simp)
/-- bytes that came in -/
theorem row_bytes {w : World} {a : Option Addr} {len : Nat} {h : Nat → Int} (hr : Reads w.heap.size w a len (fun i => .int .u8 (h i))) (hw : ∀ i, i < len → (Lit.int .u8 (h i)).wf = true) :
    ∃ f : Nat → BitVec 8, (∀ i, i < len → h i = ub (f i)) ∧ Reads w.heap.size w a len (fun i => .int .u8 (ub (f i))) := by
  have hf : ∀ i, i < len → h i = ub (BitVec.ofNat 8 (h i).toNat) := fun i hi => by
    have := hw i hi
    simp [Lit.wf, IntKind.min, IntKind.max, IntKind.signed, IntKind.bits] at this
    unfold ub; rw [BitVec.toNat_ofNat]; omega
  exact ⟨fun i => BitVec.ofNat 8 (h i).toNat, hf, hr.mono' (Nat.le_refl _) fun i hi => by rw [← hf i hi]⟩
/-- the words of bytes, or none where there is no whole number of them: what both Words answer -/
def WordsAre (w w' : World) (n : Nat) (g : Nat → BitVec 8) (e : Ending) : Prop :=
  ∃ v q x, e = .returned (.tuple #[v, .int .i64 x]) ∧ Below w.heap.size w w' ∧ w'.ownsRow w.heap.size 22 1 v q ((List.range q).map (fun i => .int .u32 (u (bw g i)))) ∧ ((n % 4 ≠ 0 ∧ q = 0 ∧ x = 4) ∨ (n = 4 * q ∧ x = 0))
theorem words_any (B n c : Nat) (p : Option Addr) (g : Nat → BitVec 8) (w : World) (hn : n ≤ 4294967292) (hB : B ≤ w.heap.size) (hr : Reads B w p n (fun i => .int .u8 (ub (g i)))) :
    Calls Try.prog 28 #[.slice p n c] w (fun e w' => WordsAre w w' n g e) := by
  by_cases h4 : n % 4 = 0
  · obtain ⟨q, rfl⟩ : ∃ q, n = 4 * q := ⟨n / 4, by omega⟩
    refine (words_yes B q c p g w (by omega) hB hr).mono ?_
    rintro e w' ⟨v, rfl, hb, hown⟩
    exact ⟨v, q, 0, rfl, hb, hown, .inr ⟨rfl, rfl⟩⟩
  · refine (words_no n c p w (by omega) h4).mono ?_
    rintro e w' ⟨rfl, hb⟩
    exact ⟨_, 0, 4, rfl, hb, World.ownsRow_nil _ _ _ _, .inl ⟨h4, rfl, rfl⟩⟩
theorem ref_words_any (B n c : Nat) (p : Option Addr) (g : Nat → BitVec 8) (w : World) (hn : n ≤ 4294967292) (hB : B ≤ w.heap.size) (hr : Reads B w p n (fun i => .int .u8 (ub (g i)))) :
    Calls Try.prog 29 #[.slice p n c] w (fun e w' => WordsAre w w' n g e) := by
  by_cases h4 : n % 4 = 0
  · obtain ⟨q, rfl⟩ : ∃ q, n = 4 * q := ⟨n / 4, by omega⟩
    refine (ref_words B q c p g w (by omega) hB hr).mono ?_
    rintro e w' ⟨v, rfl, hb, hown⟩
    simp only [dw_bw] at hown
    exact ⟨v, q, 0, rfl, hb, hown, .inr ⟨rfl, rfl⟩⟩
  · refine (ref_words_no n c p w (by omega) h4).mono ?_
    rintro e w' ⟨rfl, rfl⟩
    exact ⟨_, 0, 4, rfl, Below.refl _ _, World.ownsRow_nil _ _ _ _, .inl ⟨h4, rfl, rfl⟩⟩

/-- what is made later lies in another block -/
theorem own_apart {w w' : World} {base e1 e2 s1 s2 : Nat} {v v' : Value} {n n' : Nat} {xs xs' : List Value} (h : w.ownsRow base e1 s1 v n xs) (h' : w'.ownsRow w.heap.size e2 s2 v' n' xs') : v'.ownBlock = none ∨ v'.ownBlock ≠ v.ownBlock := by
  cases e : v'.ownBlock with
  | none => exact .inl rfl
  | some b =>
    right
    intro e'
    have h1 := (h'.lt b e).1
    have h2 := (h.lt b e'.symm).2
    omega

set_option maxHeartbeats 2000000 in
set_option maxRecDepth 100000 in
theorem bytes_walk (p : Option Addr) (len cap : Nat) (h : Nat → Int) (p2 : Option Addr) (len2 cap2 : Nat) (h2 : Nat → Int) (w : World)
    (hr : Reads w.heap.size w p len (fun i => .int .u32 (h i))) (hp : p = none → len = 0 ∧ cap = 0) (hw : ∀ i, i < len → (Lit.int .u32 (h i)).wf = true)
    (hr2 : Reads w.heap.size w p2 len2 (fun i => .int .u8 (h2 i))) (hp2 : p2 = none → len2 = 0 ∧ cap2 = 0) (hw2 : ∀ i, i < len2 → (Lit.int .u8 (h2 i)).wf = true)
    (hm : len ≤ 140737488351232) (hm2 : len2 ≤ 140737488351232) :
    Calls Try.prog 5 #[.slice p len cap, .slice p2 len2 cap2] w fun e w' => e = .returned (.bool true) ∧ Below w.heap.size w w' := by
  by_cases hlen : 1000 < (len : Int) + len2
  · go_enter Try.func5, Try.ntmps5
    go_wp2_with fail
    refine (awake_any _).mono ?_
    rintro e w1 ⟨rfl, hb1⟩
    go_wp2
    go_ret
    exact ⟨rfl, hb1⟩
  · obtain ⟨f, hf, hrf⟩ := row_words hr hw
    obtain ⟨g, hg, hrg⟩ := row_bytes hr2 hw2
    have HF := Lib.hid hf
    have HRF := Lib.hid hrf
    have HG := Lib.hid hg
    have HRG := Lib.hid hrg
    have HP := Lib.hid hp
    have HR := Lib.hid hr
    have HP2 := Lib.hid hp2
    have HR2 := Lib.hid hr2
    clear hw hp hr hf hrf hw2 hp2 hr2 hg hrg
    go_enter Try.func5, Try.ntmps5
    go_wp2_with fail
    refine (LentLimbs.lent w.heap.size p len cap h w (by omega) HP.out HR.out (Nat.le_refl _)).mono ?_
    rintro e w1 ⟨gi, rfl, hb1, hx1⟩
    have HX := Lib.hid hx1
    have z1 := hb1.size
    have HIN := Lib.hid (((HX.out.take (m := len) (by omega)).mono' (Nat.le_refl _) (g := fun i => .int .u32 (u (f i))) (fun i hi => (LentLimbs.ext_lt hi).trans (by rw [HF.out i hi]))))
    clear hx1
    go_wp2_with fail
    refine (LentBytes.lent w.heap.size p2 len2 cap2 h2 w1 (by omega) HP2.out (HR2.out.below hb1) z1).mono ?_
    rintro e w2 ⟨gr, rfl, hb2, hx2⟩
    have HY := Lib.hid hx2
    have z2 := hb2.size
    have HRAW := Lib.hid (((HY.out.take (m := len2) (by omega)).mono' (Nat.le_refl _) (g := fun i => .int .u8 (ub (g i))) (fun i hi => (LentBytes.ext_lt hi).trans (by rw [HG.out i hi]))))
    clear hx2
    have b2 : Below w.heap.size w w2 := hb1.trans (hb2.mono z1)
    go_wp2_with fail
    refine (bytes_any _ len _ f w2 (by omega) ((HIN.out.below hb2).mono z2)).mono ?_
    rintro e w3 ⟨out, rfl, hb3, hown3⟩
    have z3 := hb3.size
    have b3 : Below w.heap.size w w3 := b2.trans (hb3.mono (by omega))
    go_wp2_with fail
    refine (words_any w2.heap.size len2 _ _ g w3 (by omega) z3 (HRAW.out.below hb3)).mono ?_
    rintro e w4 ⟨wv, q, x, rfl, hb4, hown4, hq4⟩
    have z4 := hb4.size
    have b4 : Below w.heap.size w w4 := b3.trans (hb4.mono (by omega))
    go_wp2_with fail
    refine (ref_words_any w.heap.size len2 cap2 p2 g w4 (by omega) (by omega) (HRG.out.below b4)).mono ?_
    rintro e w5 ⟨wv2, q2, x2, rfl, hb5, hown5, hq5⟩
    have z5 := hb5.size
    have b5 : Below w.heap.size w w5 := b4.trans (hb5.mono (by omega))
    obtain rfl : x2 = x := by omega
    obtain rfl : q2 = q := by omega
    go_wp2_with fail
    refine (ref_bytes w.heap.size p len cap f w5 (by omega) (by omega) (HRF.out.below b5)).mono ?_
    rintro e w6 ⟨rb, rfl, hb6, hown6⟩
    have z6 := hb6.size
    obtain ⟨po, co, rfl, hro, _⟩ := owns_reads hown3
    obtain ⟨pb, cb, rfl, hrb, _⟩ := owns_reads hown6
    obtain ⟨pw, cw, rfl, hrw, _⟩ := owns_reads hown4
    obtain ⟨pv, cv, rfl, hrv, _⟩ := owns_reads hown5
    have b36 : Below w3.heap.size w3 w6 := (hb4.trans (hb5.mono z4)).trans (hb6.mono (by omega))
    go_wp2_with fail
    refine (LentBytes.same w6.heap.size po pb (4 * len) (4 * len) co cb (fun i => ub (wb f i)) (fun i => ub (wb f i)) w6 (by omega) (by omega) ((hro.below b36).mono (by omega)) hrb rfl (fun _ _ => rfl)).mono ?_
    rintro e w7 ⟨rfl, hb7⟩
    have z7 := hb7.size
    go_wp2_with fail
    refine (LentLimbs.same w5.heap.size pw pv q2 q2 cw cv (fun i => u (bw g i)) (fun i => u (bw g i)) w7 (by omega) (by omega) (((hrw.below hb5).mono z5).below (hb6.trans (hb7.mono z6))) (hrv.below (hb6.trans (hb7.mono z6))) rfl (fun _ _ => rfl)).mono ?_
    rintro e w8 ⟨rfl, hb8⟩
    have z8 := hb8.size
    have b38 : Below w3.heap.size w3 w8 := (b36.trans (hb7.mono (by omega))).trans (hb8.mono (by omega))
    have b48 : Below w4.heap.size w4 w8 := ((hb5.trans (hb6.mono z5)).trans (hb7.mono (by omega))).trans (hb8.mono (by omega))
    have hown3' := own_below hown3 b38
    have hown4' := own_below hown4 b48
    go_wp2_with fail
    refine (LentBytes.over w2.heap.size _ (4 * len) _ w8 hown3' (by omega)).mono ?_
    rintro e w9 ⟨rfl, hgr9⟩
    have b29 : Below w2.heap.size w8 w9 := (Below.refl _ _).grown hgr9 (by omega) (fun k e => (hown3'.lt k e).1)
    have z9 := b29.size
    have hown4'' := hown4'.kept hgr9 (own_apart hown3 hown4)
    go_wp2_with fail
    refine (LentLimbs.over w3.heap.size _ q2 _ w9 hown4'' (by omega)).mono ?_
    rintro e w10 ⟨rfl, hgr10⟩
    have b210 : Below w2.heap.size w9 w10 := (Below.refl _ _).grown hgr10 (by omega) (fun k e => by have := (hown4''.lt k e).1; omega)
    have z10 := b210.size
    have c2 : Below w2.heap.size w2 w10 := ((hb3.trans (b38.mono z3)).trans b29).trans b210
    have c0 : Below w.heap.size w w10 := b2.trans (c2.mono (by omega))
    go_wp2_with fail
    refine (LentLimbs.kept w1.heap.size _ p len _ cap h w10 (by omega) (by omega) ((HR.out.below c0).mono z1) (HX.out.below (hb2.trans (c2.mono z2)))).mono ?_
    rintro e w11 ⟨rfl, hb11⟩
    have z11 := hb11.size
    have d2 : Below w2.heap.size w2 w11 := c2.trans (hb11.mono (by omega))
    have d0 : Below w.heap.size w w11 := c0.trans (hb11.mono (by omega))
    go_wp2_with fail
    refine (LentBytes.kept w2.heap.size _ p2 len2 _ cap2 h2 w11 (by omega) (by omega) ((HR2.out.below d0).mono (by omega)) (HY.out.below d2)).mono ?_
    rintro e w12 ⟨rfl, hb12⟩
    have z12 := hb12.size
    go_wp2_with fail
    refine (awake_any _).mono ?_
    rintro e w13 ⟨rfl, hb13⟩
    go_wp2
    go_ret
    exact ⟨rfl, (d0.trans (hb12.mono (by omega))).trans (hb13.mono (by omega))⟩
end Go.Proofs.Ytgkaoagalifklaa
