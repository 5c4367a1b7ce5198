/-
  The walk of MacEnds: keys of all lengths to 70, and 130; tags with one bit turned.
-/
import Derived.Test.YthhjieagdkimfaaDoorMacTells
namespace Go.Proofs.YthhjieagdkimfaaDoor
open Go.RowKit
set_option linter.unusedVariables false
set_option linter.unusedSimpArgs false

theorem zeroTagM : (Value.agg #[Value.int .u8 0, Value.int .u8 0, Value.int .u8 0, Value.int .u8 0, Value.int .u8 0, Value.int .u8 0, Value.int .u8 0, Value.int .u8 0, Value.int .u8 0, Value.int .u8 0, Value.int .u8 0, Value.int .u8 0, Value.int .u8 0, Value.int .u8 0, Value.int .u8 0, Value.int .u8 0, Value.int .u8 0, Value.int .u8 0, Value.int .u8 0, Value.int .u8 0, Value.int .u8 0, Value.int .u8 0, Value.int .u8 0, Value.int .u8 0, Value.int .u8 0, Value.int .u8 0, Value.int .u8 0, Value.int .u8 0, Value.int .u8 0, Value.int .u8 0, Value.int .u8 0, Value.int .u8 0]) = tagV (fun _ => 0#8) := by kernel_rfl
theorem oneTagM : (Value.agg #[Value.int .u8 1, Value.int .u8 0, Value.int .u8 0, Value.int .u8 0, Value.int .u8 0, Value.int .u8 0, Value.int .u8 0, Value.int .u8 0, Value.int .u8 0, Value.int .u8 0, Value.int .u8 0, Value.int .u8 0, Value.int .u8 0, Value.int .u8 0, Value.int .u8 0, Value.int .u8 0, Value.int .u8 0, Value.int .u8 0, Value.int .u8 0, Value.int .u8 0, Value.int .u8 0, Value.int .u8 0, Value.int .u8 0, Value.int .u8 0, Value.int .u8 0, Value.int .u8 0, Value.int .u8 0, Value.int .u8 0, Value.int .u8 0, Value.int .u8 0, Value.int .u8 0, Value.int .u8 0]) = tagV (fun i => if i = 0 then 1#8 else 0#8) := by kernel_rfl
theorem owns_sliceM {w : World} {base : Nat} {e : TypeId} {size : Nat} {v : Value} {n : Nat} {xs : List Value} (h : w.ownsRow base e size v n xs) : ∃ p c, v = .slice p n c ∧ n ≤ c ∧ c ≤ maxLen ∧ (p = none → c = 0) := by
  rcases h.2 with ⟨rfl, rfl⟩ | ⟨g, cap, cur, rfl, h1, h2, h3, h4, _⟩
  · exact ⟨none, 0, rfl, Nat.le_refl _, by unfold maxLen; omega, fun _ => rfl⟩
  · exact ⟨_, cap, rfl, h3, h4, fun e => by cases e⟩
/-- rising bytes -/
def bf5 (i : Nat) : BitVec 8 := BitVec.ofNat 8 (i * 5 + 1)
structure ME (w : World) (v : Value) (n : Nat) (W : World) : Prop where
  own : W.ownsRow w.heap.size 5 1 v n (cellsOf bf5 n)
  bel : Below w.heap.size w W
  kc : Kc w.heap.size W
theorem ME.go {w W W' : World} {v : Value} {n : Nat} (h : ME w v n W) (g : Below W.heap.size W W') : ME w v n W' := ⟨owns_below h.own g, h.bel.trans (g.mono h.bel.size), h.kc.below (g.mono h.bel.size)⟩
theorem ME.drew {w W : World} {v : Value} {n : Nat} (h : ME w v n W) : ME w v n W.drew := h.go (Below.refl _ _).drew
theorem ME.alloc {w W : World} {v : Value} {n : Nat} (h : ME w v n W) (o : Obj) : ME w v n (W.alloc o) := h.go ((Below.refl _ _).alloc (Nat.le_refl _) o)
theorem ME.reads {w W : World} {p : Option Addr} {c n : Nat} (h : ME w (.slice p n c) n W) : Reads W.heap.size W p n (fun i => .int .u8 (ub (bf5 i))) := owns_reads' h.own
/-- no rows -/
theorem mt_nil {W : World} {kp : Option Addr} {kn kc : Nat} {k : Nat → BitVec 8} {V : Value} {t : Nat → BitVec 8} (hV : V = tagV t) (hk : Kc W.heap.size W) (hkr : Reads W.heap.size W kp kn (fun i => .int .u8 (ub (k i)))) (hkc : kn ≤ kc) (hkn : kn ≤ 131) (hkz : kp = none → kc = 0) :
    Calls Tryd.prog 21 #[.slice kp kn kc, .slice none 0 0, V] W fun e w' => e = .returned (.bool true) ∧ Below W.heap.size W w' := by
  subst hV
  exact macTells_walk kp kn kc k none 0 0 (fun _ => none) (fun _ => 0) (fun _ => 0) (fun _ _ => 0#8) t W hk hkr hkc (by omega) hkz ⟨.inl rfl, fun i hi => by omega, fun i hi => by omega⟩ (Nat.le_refl _) (by omega) (fun _ => rfl) (fun i hi => by omega) (fun i hi => by omega)
/-- one row -/
theorem mt_one {W : World} {kp : Option Addr} {kn kc : Nat} {k : Nat → BitVec 8} {V : Value} {t : Nat → BitVec 8} {H n c : Nat} {p : Option Addr} {ty : TypeId} {f : Nat → BitVec 8} (hV : V = tagV t) (hk : Kc W.heap.size W) (hkr : Reads W.heap.size W kp kn (fun i => .int .u8 (ub (k i)))) (hkc : kn ≤ kc) (hkn : kn ≤ 131) (hkz : kp = none → kc = 0)
    (hW : W.heap[H]? = some (.cells #[.slice p n c] ty (0, 0))) (hc : n ≤ c) (hm : c ≤ maxLen) (hn : n ≤ 131) (hp : p = none → c = 0) (hr : Reads W.heap.size W p n (fun j => .int .u8 (ub (f j)))) :
    Calls Tryd.prog 21 #[.slice kp kn kc, .slice (some ⟨H, 0, none⟩) 1 1, V] W fun e w' => e = .returned (.bool true) ∧ Below W.heap.size W w' := by
  subst hV
  exact macTells_walk kp kn kc k _ 1 1 _ _ _ _ t W hk hkr hkc (by omega) hkz (RI.one hW hc hm hr) (Nat.le_refl _) (by omega) (fun e => by cases e) (fun _ _ => hp) (fun _ _ => by show n ≤ _; omega)
theorem RI.threeM {W : World} {H n c n3 c3 : Nat} {p p3 : Option Addr} {t : TypeId} {f f3 : Nat → BitVec 8} (hW : W.heap[H]? = some (.cells #[.slice p n c, .slice none 0 0, .slice p3 n3 c3] t (0, 0))) (hc : n ≤ c) (hm : c ≤ maxLen) (hc3 : n3 ≤ c3) (hm3 : c3 ≤ maxLen)
    (hr : Reads W.heap.size W p n (fun j => .int .u8 (ub (f j)))) (hr3 : Reads W.heap.size W p3 n3 (fun j => .int .u8 (ub (f3 j)))) : RI W (some ⟨H, 0, none⟩) 3 (fst3 p none p3) (fst3 n 0 n3) (fst3 c 0 c3) (fst3 f f f3) :=
  ⟨reads_at hW (fun i hi => by
    match i, hi with
    | 0, _ => rfl
    | 1, _ => rfl
    | 2, _ => rfl), fun i hi => by
    match i, hi with
    | 0, _ => exact ⟨hc, hm⟩
    | 1, _ => exact ⟨Nat.le_refl _, Nat.zero_le _⟩
    | 2, _ => exact ⟨hc3, hm3⟩, fun i hi => by
    match i, hi with
    | 0, _ => exact hr
    | 1, _ => exact .inl rfl
    | 2, _ => exact hr3⟩
/-- two rows of a byte each, one of none between -/
theorem mt_three {W : World} {kp : Option Addr} {kn kc : Nat} {k : Nat → BitVec 8} {V : Value} {t : Nat → BitVec 8} {H A B : Nat} {ty t1 t2 : TypeId} (hV : V = tagV t) (hk : Kc W.heap.size W) (hkr : Reads W.heap.size W kp kn (fun i => .int .u8 (ub (k i)))) (hkc : kn ≤ kc) (hkn : kn ≤ 131) (hkz : kp = none → kc = 0)
    (hW : W.heap[H]? = some (.cells #[.slice (some ⟨A, 0, none⟩) 1 1, .slice none 0 0, .slice (some ⟨B, 0, none⟩) 1 1] ty (0, 0))) (hA : W.heap[A]? = some (.cells #[.int .u8 1] t1 (0, 0))) (hB : W.heap[B]? = some (.cells #[.int .u8 2] t2 (0, 0))) :
    Calls Tryd.prog 21 #[.slice kp kn kc, .slice (some ⟨H, 0, none⟩) 3 3, V] W fun e w' => e = .returned (.bool true) ∧ Below W.heap.size W w' := by
  subst hV
  have hm1 : (1 : Nat) ≤ maxLen := by unfold maxLen; omega
  exact macTells_walk kp kn kc k _ 3 3 _ _ _ _ t W hk hkr hkc (by omega) hkz (RI.threeM (f := fun _ => 1#8) (f3 := fun _ => 2#8) hW (Nat.le_refl _) hm1 (Nat.le_refl _) hm1 (reads_at hA fun i hi => by rw [show i = 0 by omega]; rfl) (reads_at hB fun i hi => by rw [show i = 0 by omega]; rfl)) (Nat.le_refl _) (by omega) (fun e => by cases e) (fun i hi => by
    match i, hi with
    | 0, _ => exact fun e => by cases e
    | 1, _ => exact fun _ => rfl
    | 2, _ => exact fun e => by cases e) (fun i hi => by
    match i, hi with
    | 0, _ => show 1 ≤ _; omega
    | 1, _ => show 0 ≤ _; omega
    | 2, _ => show 1 ≤ _; omega)
theorem two_r (r : Nat) (h : r < 8) : IntKind.u8.wrap ((2 : Int) ^ r) = ub (1#8 <<< r) := by
  match r, h with
  | 0, _ | 1, _ | 2, _ | 3, _ | 4, _ | 5, _ | 6, _ | 7, _ => decide
theorem one_r (r : Nat) (h : r < 8) : (1#8 <<< r == 0#8) = false := by
  match r, h with
  | 0, _ | 1, _ | 2, _ | 3, _ | 4, _ | 5, _ | 6, _ | 7, _ => decide
/-- the key, and the tag -/
structure MX (w : World) (v : Value) (T : Nat) (s : Nat → BitVec 8) (W : World) : Prop where
  me : ME w v 131 W
  tag : BT W T 32 s
theorem MX.go {w W W' : World} {v : Value} {T : Nat} {s : Nat → BitVec 8} (h : MX w v T s W) (g : Below W.heap.size W W') : MX w v T s W' := ⟨h.me.go g, h.tag.below' g⟩
theorem MX.drew {w W : World} {v : Value} {T : Nat} {s : Nat → BitVec 8} (h : MX w v T s W) : MX w v T s W.drew := h.go (Below.refl _ _).drew
theorem MX.alloc {w W : World} {v : Value} {T : Nat} {s : Nat → BitVec 8} (h : MX w v T s W) (o : Obj) : MX w v T s (W.alloc o) := h.go ((Below.refl _ _).alloc (Nat.le_refl _) o)
/-- and a tag with one bit turned -/
structure MY (w : World) (v : Value) (T : Nat) (s : Nat → BitVec 8) (U : Nat) (t : Nat → BitVec 8) (W : World) : Prop where
  mx : MX w v T s W
  ut : BT W U 32 t
theorem MY.go {w W W' : World} {v : Value} {T U : Nat} {s t : Nat → BitVec 8} (h : MY w v T s U t W) (g : Below W.heap.size W W') : MY w v T s U t W' := ⟨h.mx.go g, h.ut.below' g⟩
theorem MY.drew {w W : World} {v : Value} {T U : Nat} {s t : Nat → BitVec 8} (h : MY w v T s U t W) : MY w v T s U t W.drew := h.go (Below.refl _ _).drew
theorem MY.alloc {w W : World} {v : Value} {T U : Nat} {s t : Nat → BitVec 8} (h : MY w v T s U t W) (o : Obj) : MY w v T s U t (W.alloc o) := h.go ((Below.refl _ _).alloc (Nat.le_refl _) o)
set_option maxHeartbeats 2000000 in
set_option maxRecDepth 100000 in
theorem macEnds_walk (w : World) (hk : Kc w.heap.size w) :
    Calls Tryd.prog 5 #[] w fun e w' => e = .returned (.bool true) ∧ Below w.heap.size w w' := by
  have HK := Lib.hid hk
  clear hk
  go_enter Tryd.func5, Tryd.ntmps5
  go_wp2
  go_loopw [1, 2] (fun v i wr => ∃ n : Nat, n ≤ 131 ∧ i = .int .i64 n ∧ ME w v n wr) (fun _ i _ => 131 - (intOf i).toNat)
  case atStart => exact ⟨0, Nat.zero_le _, rfl, World.ownsRow_nil _ _ _ _, Below.refl _ _, HK.out⟩
  case round =>
    obtain ⟨n, hn, rfl, hde⟩ := hrel
    by_cases hlt : n < 131
    · have HDE := Lib.hid hde
      clear hde
      obtain ⟨p, c, rfl, hnc, hcm, hp0⟩ := owns_sliceM HDE.out.own
      have HDX := Lib.hid (show ∀ (W : World), ME w (.slice p n c) n W → ∃ v' w', (Builtin.append_ #[27, 27] 27 #[.slice p n c, .slice (some ⟨W.heap.size, 0, none⟩) 1 1]).run Tryd.prog (W.alloc (.cells #[.int .u8 (ub (bf5 n))] 5)) = .ok v' w' ∧ ME w v' (n + 1) w' from fun W hV => by
        obtain ⟨v', w', h1, h2, h3⟩ := append_byte W w.heap.size 27 _ n bf5 hV.own _ rfl (by omega) hV.bel.size
        have hb : Below w.heap.size w w' := hV.bel.grown h3 hV.bel.size (fun q e => (hV.own.lt q e).1)
        exact ⟨v', w', h1, h2, hb, HK.out.below hb⟩)
      have h7 : IntKind.u8.wrap ((n : Int) * 5 + 1) = ub (bf5 n) := by unfold bf5 ub; rw [IntKind.wrap_u8]; simp only [BitVec.toNat_ofNat]; omega
      by_cases h71 : n < 71
      · obtain ⟨C0, hC0, hmk⟩ := made_row n
        simp only [show n ≤ 281474976710656 by omega, if_true] at hmk
        have HZ := Lib.hid hC0
        have h130 : ((n : Int) == 130) = false := by simp; omega
        clear hC0
        go_wp2_with fail
        refine (mt_nil (k := bf5) zeroTagM (HDE.out.kc.mono HDE.out.bel.size) HDE.out.reads hnc (by omega) hp0).mono ?_
        rintro e w1 ⟨rfl, hb1⟩
        have H1 := Lib.hid (HDE.out.go hb1)
        clear hb1 HDE
        go_wp2_with fail
        refine (mt_one (k := fun _ => 0#8) (f := bf5) oneTagM (((H1.out.alloc _).alloc _).kc.mono ((H1.out.alloc _).alloc _).bel.size) (reads_at (laid_old (laid_at rfl)) HZ.out) (Nat.le_refl _) (by omega) (fun e => by cases e) (laid_at (by simp)) hnc hcm (by omega) hp0 ((H1.out.alloc _).alloc _).reads).mono ?_
        rintro e w2 ⟨rfl, hb2⟩
        have H2 := Lib.hid (((H1.out.alloc _).alloc _).go hb2)
        clear hb2 H1 hmk
        have HX := Lib.hid (HDX.out _ H2.out)
        clear HDX H2
        go_wp2_with (at_builtin; (obtain ⟨v', w9, hrun, hde9⟩ := HX.out; refine Lib.wpList_append_run _ rfl _ _ _ _ rfl _ _ rfl rfl v' w9 hrun ?_))
        have H9 := Lib.hid hde9
        clear hrun hde9 HX
        go_wp2
        go_roundw
        case rel => exact ⟨n + 1, by omega, by go_num, H9.out⟩
        case measure => simp [intOf]; omega
      · by_cases h130 : n = 130
        · have he130 : ((n : Int) == 130) = true := by simp; omega
          have HN := Lib.hid h130
          clear h130
          go_wp2_with fail
          refine (mt_three (k := bf5) zeroTagM ((((HDE.out.alloc _).alloc _).alloc _).kc.mono (((HDE.out.alloc _).alloc _).alloc _).bel.size) (((HDE.out.alloc _).alloc _).alloc _).reads hnc (by omega) hp0 (laid_at (by simp)) (laid_old (laid_old (laid_at rfl))) (laid_old (laid_at (by simp)))).mono ?_
          rintro e w2 ⟨rfl, hb2⟩
          have H2 := Lib.hid ((((HDE.out.alloc _).alloc _).alloc _).go hb2)
          clear hb2
          have HX := Lib.hid (HDX.out _ H2.out)
          clear HDX H2
          go_wp2_with (at_builtin; (obtain ⟨v', w9, hrun, hde9⟩ := HX.out; refine Lib.wpList_append_run _ rfl _ _ _ _ rfl _ _ rfl rfl v' w9 hrun ?_))
          have H9 := Lib.hid hde9
          clear hrun hde9 HX
          go_wp2
          go_roundw
          case rel => exact ⟨n + 1, by omega, by go_num, H9.out⟩
          case measure => simp [intOf]; omega
        · have he130 : ((n : Int) == 130) = false := by simp; omega
          have HN := Lib.hid h130
          clear h130
          have HX := Lib.hid (HDX.out _ HDE.out)
          clear HDX
          go_wp2_with (at_builtin; (obtain ⟨v', w9, hrun, hde9⟩ := HX.out; refine Lib.wpList_append_run _ rfl _ _ _ _ rfl _ _ rfl rfl v' w9 hrun ?_))
          have H9 := Lib.hid hde9
          clear hrun hde9 HX
          go_wp2
          go_roundw
          case rel => exact ⟨n + 1, by omega, by go_num, H9.out⟩
          case measure => simp [intOf]; omega
    · obtain rfl : n = 131 := by omega
      have HDE := Lib.hid hde
      clear hde
      obtain ⟨p, c, rfl, hnc, hcm, hp0⟩ := owns_sliceM HDE.out.own
      obtain ⟨p1, hs1', hr1⟩ := slice_to p 131 c 9 (by omega) hnc
      have hs1 : ∀ W : World, (Instr.slice 27 (.slice p 131 c) none (some (.int .i64 9)) none).run Tryd.prog W = .ok (.slice p1 9 c) W := hs1'
      have HR1 := Lib.hid hr1
      clear hs1' hr1 hp0
      obtain ⟨s, hs⟩ : ∃ s, s = hmac bf5 9 (fun _ => 97#8) 1 := ⟨_, rfl⟩
      have HOF := Lib.hid (show ∀ (W : World) (H A : Nat), W.heap[H]? = some (.cells #[.slice (some ⟨A, 0, none⟩) 1 1] 27 (0, 0)) → W.heap[A]? = some (.cells #[.int .u8 97] 5 (1, 2)) → ME w (.slice p 131 c) 131 W →
          Calls Tryd.prog 22 #[.slice p1 9 c, .slice (some ⟨H, 0, none⟩) 1 1] W fun e w' => e = .returned (tagV s) ∧ Below W.heap.size W w' from fun W H A hW hA hV => by
        rw [hs]
        exact mac1 (k := bf5) (g := fun _ => 97#8) (B := w.heap.size) hV.kc hV.bel.size hW (by omega) (by omega) hcm (HR1.out _ _ _ hV.reads) (Nat.le_refl _) (by unfold maxLen; omega) (reads_at hA fun i hi => by rw [show i = 0 by omega]; rfl) (by omega))
      have HCK := Lib.hid (show ∀ (W : World) (H A : Nat) (t' : Nat → BitVec 8), W.heap[H]? = some (.cells #[.slice (some ⟨A, 0, none⟩) 1 1] 27 (0, 0)) → W.heap[A]? = some (.cells #[.int .u8 97] 5 (1, 2)) → ME w (.slice p 131 c) 131 W →
          Calls Tryd.prog 24 #[.slice p1 9 c, tagV t', .slice (some ⟨H, 0, none⟩) 1 1] W fun e w' => e = .returned (.int .i64 (chk (teq s t'))) ∧ Below W.heap.size W w' from fun W H A t' hW hA hV => by
        rw [hs]
        exact check1 (k := bf5) (g := fun _ => 97#8) (B := w.heap.size) hV.kc hV.bel.size hW (by omega) (by omega) hcm (HR1.out _ _ _ hV.reads) (Nat.le_refl _) (by unfold maxLen; omega) (reads_at hA fun i hi => by rw [show i = 0 by omega]; rfl) (by omega))
      clear hs
      have kc := fun (W : World) => Lib.run_convert_bytes_const (P := Tryd.prog) W 27 5 #[.int .u8 97] 1 1 Tryd.underlying27 Tryd.underlying5
      simp only [List.size_toArray, List.length_cons, List.length_nil, World.size_alloc, Nat.zero_add, Nat.reduceAdd] at kc
      go_upto_region 8 with (fail)
      refine wp_region_lit ?_
      refine wpList_plain rfl (fun K hK => ?_)
      go_simp
      refine hK _ _ ?_
      clear hK K
      refine wpList_plain rfl (fun K hK => ?_)
      go_simp
      refine hK _ _ ?_
      clear hK K
      refine wpList_plain rfl (fun K hK => ?_)
      go_simp
      refine hK _ _ ?_
      clear hK K
      refine wpList_plain rfl (fun K hK => ?_)
      go_simp
      refine hK _ _ ?_
      clear hK K
      refine wpList_plain rfl (fun K hK => ?_)
      go_simp
      refine hK _ _ ?_
      clear hK K
      refine wpList_plain rfl (fun K hK => ?_)
      go_simp
      refine (HOF.out _ _ _ (laid_at (by simp)) (laid_old (laid_at rfl)) ((HDE.out.alloc _).alloc _)).mono ?_
      rintro e W5 ⟨rfl, hb5⟩
      dsimp only
      refine hK _ _ ?_
      clear hK K
      have H5 := Lib.hid (((HDE.out.alloc _).alloc _).go hb5)
      clear hb5 HDE HOF
      refine wpList_plain rfl (fun K hK => ?_)
      go_simp
      refine hK _ _ ?_
      clear hK K
      refine wpList_store_mid rfl 32 _ _ rfl W5.heap.size 0 (tagC s).toArray rfl rfl (by simpa [tagC_len] using tag_there W5) (by simp [infoTag, tagC_len]) (tagC_one _) ?_
      rw [List.toList_toArray]
      obtain ⟨ht6, hb6⟩ := tag_store W5 s
      show Exit.then _ _ Exit.normal _ ((W5.alloc (.cells (List.replicate 32 (Value.int .u8 0)).toArray 32)).setCells W5.heap.size 0 (tagC s))
      generalize (W5.alloc (.cells (List.replicate 32 (Value.int .u8 0)).toArray 32)).setCells W5.heap.size 0 (tagC s) = W6 at ht6 hb6 ⊢
      have HV := Lib.hid (show MX w (.slice p 131 c) W5.heap.size s W6 from ⟨H5.out.go hb6, ht6⟩)
      clear ht6 hb6 H5
      obtain ⟨T, hT⟩ : ∃ T, T = W5.heap.size := ⟨_, rfl⟩
      rw [← hT] at HV ⊢
      clear hT
      go_wp2
      go_loopw [4] (fun i wr => ∃ k : Nat, k ≤ 256 ∧ i = .int .i64 k ∧ MX w (.slice p 131 c) T s wr) (fun i _ => 256 - (intOf i).toNat)
      case atStart => exact ⟨0, Nat.zero_le _, rfl, HV.out⟩
      case round =>
        clear HV
        obtain ⟨k, hk, rfl, hmx⟩ := hrel
        have HV := Lib.hid hmx
        clear hmx
        by_cases hlt : k < 256
        · go_upto_region 12 with (fail)
          refine wp_region_lit ?_
          refine wpList_load_mid rfl 32 _ rfl T 0 rfl (tagC s) _ HV.out.tag.range Tryd.underlying32 rfl (by simp [infoTag, tagC_len]) ?_
          refine wpList_plain rfl (fun K hK => ?_)
          go_simp
          refine hK _ _ ?_
          clear hK K
          refine wpList_store_mid rfl 32 _ _ rfl wr.heap.size 0 (tagC s).toArray rfl rfl (by simpa [tagC_len] using tag_there wr) (by simp [infoTag, tagC_len]) (tagC_one _) ?_
          rw [List.toList_toArray]
          obtain ⟨ht6, hb6⟩ := tag_store wr s
          show Exit.then _ _ Exit.normal _ ((wr.alloc (.cells (List.replicate 32 (Value.int .u8 0)).toArray 32)).setCells wr.heap.size 0 (tagC s))
          generalize (wr.alloc (.cells (List.replicate 32 (Value.int .u8 0)).toArray 32)).setCells wr.heap.size 0 (tagC s) = W7 at ht6 hb6 ⊢
          have H7 := Lib.hid ht6
          have HB7 := Lib.hid hb6
          clear ht6 hb6
          obtain ⟨q, hqd⟩ : ∃ q, q = k / 8 := ⟨_, rfl⟩
          obtain ⟨r, hrd⟩ : ∃ r, r = k % 8 := ⟨_, rfl⟩
          have hq : q < 32 := by omega
          have hr8 : r < 8 := by omega
          have hdiv : (k : Int).tdiv 8 = (q : Int) := by rw [Int.tdiv_eq_ediv_of_nonneg (by omega)]; omega
          have hmod : (k : Int).tmod 8 = (r : Int) := by rw [Int.tmod_eq_emod_of_nonneg (by omega)]; omega
          have hq32 : (q : Int) < 32 := by omega
          have hwq : IntKind.i64.wrap (q : Int) = (q : Int) := IntWalk.i64_in _ (by omega)
          have h2r : IntKind.u8.wrap ((2 : Int) ^ r) = ub (1#8 <<< r) := two_r r hr8
          have HQD := Lib.hid hqd
          have HRD := Lib.hid hrd
          clear hqd hrd
          have HX7 := Lib.hid (HV.out.go HB7.out)
          have HDD := Lib.hid (show ∀ W, MX w (.slice p 131 c) T s W → BT W wr.heap.size 32 s → MX w (.slice p 131 c) T s W ∧ BT W wr.heap.size 32 s ∧ W.cell? ⟨wr.heap.size, q, none⟩ = some (.int .u8 (ub (s q))) from fun W h1 h2 => ⟨h1, h2, h2.byte q hq⟩)
          go_upto_region 13 with (fail)
          refine wp_region_noPanic ?_
          refine wp_region_last (n := 11) (S := (fun W => MX w (.slice p 131 c) T s W ∧ BT W wr.heap.size 32 s ∧ W.cell? ⟨wr.heap.size, q, none⟩ = some (.int .u8 (ub (s q))))) 11 (by kernel_rfl) rfl (by kernel_rfl) (by decide) (HDD.out _ HX7.out.drew H7.out.drew) (fun hHeld => ?_)
          refine take_at (i := 0) (d := some 58) (v := ?_) rfl rfl (by kernel_rfl) (by kernel_rfl) (by kernel_rfl) (fun _ _ _ h => h) (Or.inl ⟨by rfl, ?_⟩) (by assumption) ?_; rotate_left; · (intro w' hSw; (try dsimp only at hSw); go_simp; (try with_reducible rfl))
          try simp only [Act.put, List.setIfInBounds_toArray, List.set_cons_zero, List.set_cons_succ]
          refine take_at (i := 1) (d := some 59) (v := ?_) rfl rfl (by kernel_rfl) (by kernel_rfl) (by kernel_rfl) (fun _ _ _ h => h) (Or.inl ⟨by rfl, ?_⟩) (by assumption) ?_; rotate_left; · (intro w' hSw; (try dsimp only at hSw); go_simp; (try with_reducible rfl))
          try simp only [Act.put, List.setIfInBounds_toArray, List.set_cons_zero, List.set_cons_succ]
          refine take_at (i := 2) (d := some 60) (v := ?_) rfl rfl (by kernel_rfl) (by kernel_rfl) (by kernel_rfl) (fun _ _ _ h => h) (Or.inl ⟨by rfl, ?_⟩) (by assumption) ?_; rotate_left; · (intro w' hSw; (try dsimp only at hSw); go_simp; (try with_reducible rfl))
          try simp only [Act.put, List.setIfInBounds_toArray, List.set_cons_zero, List.set_cons_succ]
          refine take_at (i := 3) (d := some 61) (v := ?_) rfl rfl (by kernel_rfl) (by kernel_rfl) (by kernel_rfl) (fun _ _ _ h => h) (Or.inl ⟨by rfl, ?_⟩) (by assumption) ?_; rotate_left; · (intro w' hSw; (try dsimp only at hSw); go_simp; (try with_reducible rfl))
          try simp only [Act.put, List.setIfInBounds_toArray, List.set_cons_zero, List.set_cons_succ]
          refine take_at (i := 4) (d := some 62) (v := ?_) rfl rfl (by kernel_rfl) (by kernel_rfl) (by kernel_rfl) (fun _ _ _ h => h) (Or.inl ⟨by rfl, ?_⟩) (by assumption) ?_; rotate_left; · (intro w' hSw; (try dsimp only at hSw); go_simp; (try with_reducible rfl))
          try simp only [Act.put, List.setIfInBounds_toArray, List.set_cons_zero, List.set_cons_succ]
          refine take_at (i := 5) (d := some 63) (v := ?_) rfl rfl (by kernel_rfl) (by kernel_rfl) (by kernel_rfl) (fun _ _ _ h => h) (Or.inl ⟨by rfl, ?_⟩) (by assumption) ?_; rotate_left; · (intro w' hSw; (try dsimp only at hSw); go_simp; (try with_reducible rfl))
          try simp only [Act.put, List.setIfInBounds_toArray, List.set_cons_zero, List.set_cons_succ]
          refine take_at (i := 6) (d := some 64) (v := ?_) rfl rfl (by kernel_rfl) (by kernel_rfl) (by kernel_rfl) (fun _ _ _ h => h) (Or.inl ⟨by rfl, ?_⟩) (by assumption) ?_; rotate_left; · (intro w' hSw; (try dsimp only at hSw); go_simp; (try with_reducible rfl))
          try simp only [Act.put, List.setIfInBounds_toArray, List.set_cons_zero, List.set_cons_succ]
          refine take_at (i := 7) (d := some 65) (v := ?_) rfl rfl (by kernel_rfl) (by kernel_rfl) (by kernel_rfl) (fun _ _ _ h => h) (Or.inl ⟨by rfl, ?_⟩) (by assumption) ?_; rotate_left; · (intro w' hSw; (try dsimp only at hSw); go_simp; (try with_reducible rfl))
          try simp only [Act.put, List.setIfInBounds_toArray, List.set_cons_zero, List.set_cons_succ]
          refine take_at (i := 8) (d := some 66) (v := ?_) rfl rfl (by kernel_rfl) (by kernel_rfl) (by kernel_rfl) (fun _ _ _ h => h) (Or.inl ⟨by rfl, ?_⟩) (by assumption) ?_; rotate_left; · (intro w' hSw; (try dsimp only at hSw); go_simp; (try with_reducible rfl))
          try simp only [Act.put, List.setIfInBounds_toArray, List.set_cons_zero, List.set_cons_succ]
          refine take_at (i := 9) (d := some 67) (v := ?_) rfl rfl (by kernel_rfl) (by kernel_rfl) (by kernel_rfl) (fun _ _ _ h => h) (Or.inl ⟨by rfl, ?_⟩) (by assumption) ?_; rotate_left; · (intro w' hSw; (try dsimp only at hSw); go_simp; (try with_reducible rfl))
          try simp only [Act.put, List.setIfInBounds_toArray, List.set_cons_zero, List.set_cons_succ]
          refine take_at (i := 10) (d := some 68) (v := ?_) rfl rfl (by kernel_rfl) (by kernel_rfl) (by kernel_rfl) (fun _ _ _ h => h) (Or.inl ⟨by rfl, ?_⟩) (by assumption) ?_; rotate_left; · (intro w' hSw; (try dsimp only at hSw); go_simp; (try with_reducible rfl))
          try simp only [Act.put, List.setIfInBounds_toArray, List.set_cons_zero, List.set_cons_succ]
          refine wpAnyH_done (by kernel_rfl) ?_ _
          have hg := gr_setCell (hb := wr.heap.size) (i := q) (w := W7.drew) (.int .u8 (ub (s q ^^^ 1#8 <<< r)))
          have hn2 : BT (W7.drew.setCell ⟨wr.heap.size, q, none⟩ (.int .u8 (ub (s q ^^^ 1#8 <<< r)))) wr.heap.size 32 (turnAt s q (1#8 <<< r)) := hHeld.2.1.set q hq _ (by unfold turnAt; rw [if_pos rfl]) (fun j h1 h2 => by unfold turnAt; rw [if_neg h2])
          have hn1 : Below wr.heap.size wr (W7.drew.setCell ⟨wr.heap.size, q, none⟩ (.int .u8 (ub (s q ^^^ 1#8 <<< r)))) := HB7.out.drew.grown hg HB7.out.size (by rintro j ⟨⟩; exact Nat.le_refl _)
          have cm := hHeld.2.2
          have fm := hHeld.2.1.free q
          refine behind_go rfl (by rfl) ?_
          clear hHeld HDD HX7 H7 hg HB7
          go_simp
          refine NoPanic.normal ?_
          clear cm fm
          rw [set_drew] at hn1 hn2
          generalize World.drew (World.setCell _ ⟨wr.heap.size, q, none⟩ _) = W8 at hn1 hn2 ⊢
          have HY := Lib.hid (show MY w (.slice p 131 c) T s wr.heap.size (turnAt s q (1#8 <<< r)) W8 from ⟨HV.out.go hn1, hn2⟩)
          have ht1 : teq s (turnAt s q (1#8 <<< r)) = false := by rw [turnAt_teq _ _ _ hq]; exact one_r r hr8
          obtain ⟨U, hU⟩ : ∃ U, U = wr.heap.size := ⟨_, rfl⟩
          rw [← hU] at HY ⊢
          clear hn1 hn2 hU hdiv hmod hwq h2r
          obtain ⟨t', ht'⟩ : ∃ t', t' = turnAt s q (1#8 <<< r) := ⟨_, rfl⟩
          rw [← ht'] at HY ht1
          obtain ⟨VT, hVT⟩ : ∃ V, V = tagV s := ⟨_, rfl⟩
          obtain ⟨VU, hVU⟩ : ∃ V, V = tagV t' := ⟨_, rfl⟩
          have KTU := Lib.hid (show ∀ W, Calls Tryd.prog 23 #[VT, VU] W fun e w' => e = .returned (.bool false) ∧ Below W.heap.size W w' by rw [hVT, hVU, ← ht1]; exact same_any _ _)
          have KUT := Lib.hid (show ∀ W, Calls Tryd.prog 23 #[VU, VT] W fun e w' => e = .returned (.bool false) ∧ Below W.heap.size W w' by rw [hVT, hVU, ← ht1, teq_comm]; exact same_any _ _)
          have KC := Lib.hid (show ∀ (W : World) (H A : Nat), W.heap[H]? = some (.cells #[.slice (some ⟨A, 0, none⟩) 1 1] 27 (0, 0)) → W.heap[A]? = some (.cells #[.int .u8 97] 5 (1, 2)) → MY w (.slice p 131 c) T s U t' W →
              Calls Tryd.prog 24 #[.slice p1 9 c, VU, .slice (some ⟨H, 0, none⟩) 1 1] W fun e w' => e = .returned (.int .i64 7) ∧ Below W.heap.size W w' from fun W H A hW hA hV => by
            have h := HCK.out W H A t' hW hA hV.mx.me
            rw [ht1] at h
            rw [hVU]
            exact h)
          have LT := Lib.hid (fun (ops : Array Oper) (o : Oper) (ac : Act) (x : Operand) (h1 : Region.wanted o (yielded ops ac.tmps) = true) (h2 : o.op = .load 32 x) (h3 : ac.eval x = .pointer (some ⟨T, 0, none⟩)) => hVT ▸ tag_load (S := MY w (.slice p 131 c) T s U t') (fun _ h => h.mx.tag) h1 h2 h3)
          have LU := Lib.hid (fun (ops : Array Oper) (o : Oper) (ac : Act) (x : Operand) (h1 : Region.wanted o (yielded ops ac.tmps) = true) (h2 : o.op = .load 32 x) (h3 : ac.eval x = .pointer (some ⟨U, 0, none⟩)) => hVU ▸ tag_load (S := MY w (.slice p 131 c) T s U t') (fun _ h => h.ut) h1 h2 h3)
          clear hVT hVU ht' ht1
          go_upto_region 14 with (fail)
          refine wp_region_noPanic ?_
          refine wp_region_start (n := 18) (l := #[false, false, false, false, false, false, false, false, false, false, false, false, false, false, false, false, false, false]) (S := (MY w (.slice p 131 c) T s U t')) (by kernel_rfl) rfl (by kernel_rfl) (by (repeat (first | exact HY.out | apply MY.drew | apply MY.alloc | (refine MY.go ?_ (by assumption))))) (fun hHeld => ?_)
          refine take_to (i := 0) (d := some 69) (v := VT) (l' := #[true, false, false, false, false, false, false, false, false, false, false, false, false, false, false, false, false, false]) rfl rfl (by kernel_rfl) (by kernel_rfl) (by kernel_rfl) (by kernel_rfl) (fun _ _ _ h => h) ?_ (by assumption) ?_
          · exact LT.out _ _ _ _ (by rfl) rfl rfl
          try simp only [Act.put, List.setIfInBounds_toArray, List.set_cons_zero, List.set_cons_succ]
          refine take_to (i := 1) (d := some 70) (v := VU) (l' := #[true, true, false, false, false, false, false, false, false, false, false, false, false, false, false, false, false, false]) rfl rfl (by kernel_rfl) (by kernel_rfl) (by kernel_rfl) (by kernel_rfl) (fun _ _ _ h => h) ?_ (by assumption) ?_
          · exact LU.out _ _ _ _ (by rfl) rfl rfl
          try simp only [Act.put, List.setIfInBounds_toArray, List.set_cons_zero, List.set_cons_succ]
          refine one_to (i := 2) (l' := #[true, true, true, false, false, false, false, false, false, false, false, false, false, false, false, false, false, false]) rfl (by kernel_rfl) (by kernel_rfl) (fun K hK => ?_)
          go_simp
          refine (KTU.out _).mono ?_
          rintro e w9 ⟨rfl, hb9⟩
          dsimp only
          refine hK.out _ _ (by (repeat (first | exact HY.out | apply MY.drew | apply MY.alloc | (refine MY.go ?_ (by assumption))))) (fun hHeld => ?_)
          clear hK K
          try simp only [Act.put, List.setIfInBounds_toArray, List.set_cons_zero, List.set_cons_succ]
          refine take_to (i := 3) (d := some 72) (v := ?_) (l' := #[true, true, true, true, false, false, false, false, false, false, false, false, false, false, false, false, false, false]) rfl rfl (by kernel_rfl) (by kernel_rfl) (by kernel_rfl) (by kernel_rfl) (fun _ _ _ h => h) (Or.inl ⟨by rfl, ?_⟩) (by assumption) ?_; rotate_left; · (intro w' hSw; (try dsimp only at hSw); go_simp; (try with_reducible rfl))
          try simp only [Act.put, List.setIfInBounds_toArray, List.set_cons_zero, List.set_cons_succ]
          refine take_to (i := 4) (d := some 73) (v := VU) (l' := #[true, true, true, true, true, false, false, false, false, false, false, false, false, false, false, false, false, false]) rfl rfl (by kernel_rfl) (by kernel_rfl) (by kernel_rfl) (by kernel_rfl) (fun _ _ _ h => h) ?_ (by assumption) ?_
          · exact LU.out _ _ _ _ (by rfl) rfl rfl
          try simp only [Act.put, List.setIfInBounds_toArray, List.set_cons_zero, List.set_cons_succ]
          refine take_to (i := 5) (d := some 74) (v := VT) (l' := #[true, true, true, true, true, true, false, false, false, false, false, false, false, false, false, false, false, false]) rfl rfl (by kernel_rfl) (by kernel_rfl) (by kernel_rfl) (by kernel_rfl) (fun _ _ _ h => h) ?_ (by assumption) ?_
          · exact LT.out _ _ _ _ (by rfl) rfl rfl
          try simp only [Act.put, List.setIfInBounds_toArray, List.set_cons_zero, List.set_cons_succ]
          refine one_to (i := 6) (l' := #[true, true, true, true, true, true, true, false, false, false, false, false, false, false, false, false, false, false]) rfl (by kernel_rfl) (by kernel_rfl) (fun K hK => ?_)
          go_simp
          refine (KUT.out _).mono ?_
          rintro e w10 ⟨rfl, hb10⟩
          dsimp only
          refine hK.out _ _ (by (repeat (first | exact HY.out | apply MY.drew | apply MY.alloc | (refine MY.go ?_ (by assumption))))) (fun hHeld => ?_)
          clear hK K
          try simp only [Act.put, List.setIfInBounds_toArray, List.set_cons_zero, List.set_cons_succ]
          refine take_to (i := 7) (d := some 76) (v := ?_) (l' := #[true, true, true, true, true, true, true, true, false, false, false, false, false, false, false, false, false, false]) rfl rfl (by kernel_rfl) (by kernel_rfl) (by kernel_rfl) (by kernel_rfl) (fun _ _ _ h => h) (Or.inl ⟨by rfl, ?_⟩) (by assumption) ?_; rotate_left; · (intro w' hSw; (try dsimp only at hSw); go_simp; (try with_reducible rfl))
          try simp only [Act.put, List.setIfInBounds_toArray, List.set_cons_zero, List.set_cons_succ]
          refine take_to (i := 8) (d := some 77) (v := ?_) (l' := #[true, true, true, true, true, true, true, true, true, false, false, false, false, false, false, false, false, false]) rfl rfl (by kernel_rfl) (by kernel_rfl) (by kernel_rfl) (by kernel_rfl) (fun _ _ _ h => h) (Or.inl ⟨by rfl, ?_⟩) (by assumption) ?_; rotate_left; · (intro w' hSw; (try dsimp only at hSw); go_simp; (try with_reducible rfl))
          try simp only [Act.put, List.setIfInBounds_toArray, List.set_cons_zero, List.set_cons_succ]
          refine take_to (i := 9) (d := some 78) (v := ?_) (l' := #[true, true, true, true, true, true, true, true, true, true, false, false, false, false, false, false, false, false]) rfl rfl (by kernel_rfl) (by kernel_rfl) (by kernel_rfl) (by kernel_rfl) (fun _ _ _ h => h) (Or.inl ⟨by rfl, ?_⟩) (by assumption) ?_; rotate_left; · (intro w' hSw; (try dsimp only at hSw); go_simp; (try with_reducible rfl))
          try simp only [Act.put, List.setIfInBounds_toArray, List.set_cons_zero, List.set_cons_succ]
          refine take_to (i := 10) (d := some 79) (v := ?_) (l' := #[true, true, true, true, true, true, true, true, true, true, true, false, false, false, false, false, false, false]) rfl rfl (by kernel_rfl) (by kernel_rfl) (by kernel_rfl) (by kernel_rfl) (fun _ _ _ h => h) (Or.inl ⟨by rfl, ?_⟩) (by assumption) ?_; rotate_left; · (intro w' hSw; (try dsimp only at hSw); go_simp; (try with_reducible rfl))
          try simp only [Act.put, List.setIfInBounds_toArray, List.set_cons_zero, List.set_cons_succ]
          refine take_to (i := 11) (d := some 80) (v := VU) (l' := #[true, true, true, true, true, true, true, true, true, true, true, true, false, false, false, false, false, false]) rfl rfl (by kernel_rfl) (by kernel_rfl) (by kernel_rfl) (by kernel_rfl) (fun _ _ _ h => h) ?_ (by assumption) ?_
          · exact LU.out _ _ _ _ (by rfl) rfl rfl
          try simp only [Act.put, List.setIfInBounds_toArray, List.set_cons_zero, List.set_cons_succ]
          refine one_to (i := 12) (l' := #[true, true, true, true, true, true, true, true, true, true, true, true, true, false, false, false, false, false]) rfl (by kernel_rfl) (by kernel_rfl) (fun K hK => ?_)
          go_simp
          refine hK.out _ _ (by (repeat (first | exact HY.out | apply MY.drew | apply MY.alloc | (refine MY.go ?_ (by assumption))))) (fun hHeld => ?_)
          clear hK K
          try simp only [Act.put, List.setIfInBounds_toArray, List.set_cons_zero, List.set_cons_succ]
          refine one_to (i := 13) (l' := #[true, true, true, true, true, true, true, true, true, true, true, true, true, true, false, false, false, false]) rfl (by kernel_rfl) (by kernel_rfl) (fun K hK => ?_)
          go_simp
          refine hK.out _ _ (by (repeat (first | exact HY.out | apply MY.drew | apply MY.alloc | (refine MY.go ?_ (by assumption))))) (fun hHeld => ?_)
          clear hK K
          try simp only [Act.put, List.setIfInBounds_toArray, List.set_cons_zero, List.set_cons_succ]
          refine one_to (i := 14) (l' := #[true, true, true, true, true, true, true, true, true, true, true, true, true, true, true, false, false, false]) rfl (by kernel_rfl) (by kernel_rfl) (fun K hK => ?_)
          go_simp
          refine hK.out _ _ (by (repeat (first | exact HY.out | apply MY.drew | apply MY.alloc | (refine MY.go ?_ (by assumption))))) (fun hHeld => ?_)
          clear hK K
          try simp only [Act.put, List.setIfInBounds_toArray, List.set_cons_zero, List.set_cons_succ]
          refine one_to (i := 15) (l' := #[true, true, true, true, true, true, true, true, true, true, true, true, true, true, true, true, false, false]) rfl (by kernel_rfl) (by kernel_rfl) (fun K hK => ?_)
          go_simp
          refine (KC.out _ _ _ (by (try simp only [heap_drew]); repeat (first | (apply laid_at; simp; done) | apply laid_old | (refine laid_go ?_ (by assumption); try simp only [heap_drew]))) (by (try simp only [heap_drew]); repeat (first | (apply laid_at; simp; done) | apply laid_old | (refine laid_go ?_ (by assumption); try simp only [heap_drew]))) (by repeat (first | exact HY.out | apply MY.drew | apply MY.alloc | (refine MY.go ?_ (by assumption))))).mono ?_
          rintro e w11 ⟨rfl, hb11⟩
          dsimp only
          refine hK.out _ _ (by (repeat (first | exact HY.out | apply MY.drew | apply MY.alloc | (refine MY.go ?_ (by assumption))))) (fun hHeld => ?_)
          clear hK K
          try simp only [Act.put, List.setIfInBounds_toArray, List.set_cons_zero, List.set_cons_succ]
          refine take_to (i := 16) (d := some 85) (v := ?_) (l' := #[true, true, true, true, true, true, true, true, true, true, true, true, true, true, true, true, true, false]) rfl rfl (by kernel_rfl) (by kernel_rfl) (by kernel_rfl) (by kernel_rfl) (fun _ _ _ h => h) (Or.inl ⟨by rfl, ?_⟩) (by assumption) ?_; rotate_left; · (intro w' hSw; (try dsimp only at hSw); go_simp; (try with_reducible rfl))
          try simp only [Act.put, List.setIfInBounds_toArray, List.set_cons_zero, List.set_cons_succ]
          refine take_to (i := 17) (d := some 86) (v := ?_) (l' := #[true, true, true, true, true, true, true, true, true, true, true, true, true, true, true, true, true, true]) rfl rfl (by kernel_rfl) (by kernel_rfl) (by kernel_rfl) (by kernel_rfl) (fun _ _ _ h => h) (Or.inl ⟨by rfl, ?_⟩) (by assumption) ?_; rotate_left; · (intro w' hSw; (try dsimp only at hSw); go_simp; (try with_reducible rfl))
          try simp only [Act.put, List.setIfInBounds_toArray, List.set_cons_zero, List.set_cons_succ]
          refine wpAnyH_done (by kernel_rfl) ?_ _
          refine NoPanic.normal ?_
          have HF := Lib.hid hHeld.mx
          clear hHeld KTU KUT KC LT LU HY
          go_wp2
          go_roundw
          case rel => exact ⟨k + 1, by omega, by go_num, HF.out⟩
          case measure => simp [intOf]; omega
        · obtain rfl : k = 256 := by omega
          obtain ⟨VT, hVT⟩ : ∃ V, V = tagV s := ⟨_, rfl⟩
          have KTT := Lib.hid (show ∀ W, Calls Tryd.prog 23 #[VT, VT] W fun e w' => e = .returned (.bool true) ∧ Below W.heap.size W w' by rw [hVT, ← teq_self s]; exact same_any _ _)
          have KC0 := Lib.hid (show ∀ (W : World) (H A : Nat), W.heap[H]? = some (.cells #[.slice (some ⟨A, 0, none⟩) 1 1] 27 (0, 0)) → W.heap[A]? = some (.cells #[.int .u8 97] 5 (1, 2)) → MX w (.slice p 131 c) T s W →
              Calls Tryd.prog 24 #[.slice p1 9 c, VT, .slice (some ⟨H, 0, none⟩) 1 1] W fun e w' => e = .returned (.int .i64 0) ∧ Below W.heap.size W w' from fun W H A hW hA hV => by
            have h := HCK.out W H A s hW hA hV.me
            rw [teq_self] at h
            rw [hVT]
            exact h)
          have HAW := Lib.hid (show ∀ (W : World), MX w (.slice p 131 c) T s W → Calls Tryd.prog 25 #[] W fun e w' => e = .returned (.bool true) ∧ Below W.heap.size W w' from fun W hV => awake3 w.heap.size W hV.me.kc hV.me.bel.size)
          have LT := Lib.hid (fun (ops : Array Oper) (o : Oper) (ac : Act) (x : Operand) (h1 : Region.wanted o (yielded ops ac.tmps) = true) (h2 : o.op = .load 32 x) (h3 : ac.eval x = .pointer (some ⟨T, 0, none⟩)) => hVT ▸ tag_load (S := MX w (.slice p 131 c) T s) (fun _ h => h.tag) h1 h2 h3)
          clear hVT HCK
          go_upto_region 16 with (fail)
          refine wp_region_noPanic ?_
          refine wp_region_start (n := 17) (l := #[false, false, false, false, false, false, false, false, false, false, false, false, false, false, false, false, false]) (S := (MX w (.slice p 131 c) T s)) (by kernel_rfl) rfl (by kernel_rfl) (by (repeat (first | exact HV.out | apply MX.drew | apply MX.alloc | (refine MX.go ?_ (by assumption))))) (fun hHeld => ?_)
          refine take_to (i := 0) (d := some 87) (v := VT) (l' := #[true, false, false, false, false, false, false, false, false, false, false, false, false, false, false, false, false]) rfl rfl (by kernel_rfl) (by kernel_rfl) (by kernel_rfl) (by kernel_rfl) (fun _ _ _ h => h) ?_ (by assumption) ?_
          · exact LT.out _ _ _ _ (by rfl) rfl rfl
          try simp only [Act.put, List.setIfInBounds_toArray, List.set_cons_zero, List.set_cons_succ]
          refine take_to (i := 1) (d := some 88) (v := VT) (l' := #[true, true, false, false, false, false, false, false, false, false, false, false, false, false, false, false, false]) rfl rfl (by kernel_rfl) (by kernel_rfl) (by kernel_rfl) (by kernel_rfl) (fun _ _ _ h => h) ?_ (by assumption) ?_
          · exact LT.out _ _ _ _ (by rfl) rfl rfl
          try simp only [Act.put, List.setIfInBounds_toArray, List.set_cons_zero, List.set_cons_succ]
          refine one_to (i := 2) (l' := #[true, true, true, false, false, false, false, false, false, false, false, false, false, false, false, false, false]) rfl (by kernel_rfl) (by kernel_rfl) (fun K hK => ?_)
          go_simp
          refine (KTT.out _).mono ?_
          rintro e w9 ⟨rfl, hb9⟩
          dsimp only
          refine hK.out _ _ (by (repeat (first | exact HV.out | apply MX.drew | apply MX.alloc | (refine MX.go ?_ (by assumption))))) (fun hHeld => ?_)
          clear hK K
          try simp only [Act.put, List.setIfInBounds_toArray, List.set_cons_zero, List.set_cons_succ]
          refine take_to (i := 3) (d := some 90) (v := ?_) (l' := #[true, true, true, true, false, false, false, false, false, false, false, false, false, false, false, false, false]) rfl rfl (by kernel_rfl) (by kernel_rfl) (by kernel_rfl) (by kernel_rfl) (fun _ _ _ h => h) (Or.inl ⟨by rfl, ?_⟩) (by assumption) ?_; rotate_left; · (intro w' hSw; (try dsimp only at hSw); go_simp; (try with_reducible rfl))
          try simp only [Act.put, List.setIfInBounds_toArray, List.set_cons_zero, List.set_cons_succ]
          refine take_to (i := 4) (d := some 91) (v := ?_) (l' := #[true, true, true, true, true, false, false, false, false, false, false, false, false, false, false, false, false]) rfl rfl (by kernel_rfl) (by kernel_rfl) (by kernel_rfl) (by kernel_rfl) (fun _ _ _ h => h) (Or.inl ⟨by rfl, ?_⟩) (by assumption) ?_; rotate_left; · (intro w' hSw; (try dsimp only at hSw); go_simp; (try with_reducible rfl))
          try simp only [Act.put, List.setIfInBounds_toArray, List.set_cons_zero, List.set_cons_succ]
          refine take_to (i := 5) (d := some 92) (v := ?_) (l' := #[true, true, true, true, true, true, false, false, false, false, false, false, false, false, false, false, false]) rfl rfl (by kernel_rfl) (by kernel_rfl) (by kernel_rfl) (by kernel_rfl) (fun _ _ _ h => h) (Or.inl ⟨by rfl, ?_⟩) (by assumption) ?_; rotate_left; · (intro w' hSw; (try dsimp only at hSw); go_simp; (try with_reducible rfl))
          try simp only [Act.put, List.setIfInBounds_toArray, List.set_cons_zero, List.set_cons_succ]
          refine take_to (i := 6) (d := some 93) (v := VT) (l' := #[true, true, true, true, true, true, true, false, false, false, false, false, false, false, false, false, false]) rfl rfl (by kernel_rfl) (by kernel_rfl) (by kernel_rfl) (by kernel_rfl) (fun _ _ _ h => h) ?_ (by assumption) ?_
          · exact LT.out _ _ _ _ (by rfl) rfl rfl
          try simp only [Act.put, List.setIfInBounds_toArray, List.set_cons_zero, List.set_cons_succ]
          refine one_to (i := 7) (l' := #[true, true, true, true, true, true, true, true, false, false, false, false, false, false, false, false, false]) rfl (by kernel_rfl) (by kernel_rfl) (fun K hK => ?_)
          go_simp
          refine hK.out _ _ (by (repeat (first | exact HV.out | apply MX.drew | apply MX.alloc | (refine MX.go ?_ (by assumption))))) (fun hHeld => ?_)
          clear hK K
          try simp only [Act.put, List.setIfInBounds_toArray, List.set_cons_zero, List.set_cons_succ]
          refine one_to (i := 8) (l' := #[true, true, true, true, true, true, true, true, true, false, false, false, false, false, false, false, false]) rfl (by kernel_rfl) (by kernel_rfl) (fun K hK => ?_)
          go_simp
          refine hK.out _ _ (by (repeat (first | exact HV.out | apply MX.drew | apply MX.alloc | (refine MX.go ?_ (by assumption))))) (fun hHeld => ?_)
          clear hK K
          try simp only [Act.put, List.setIfInBounds_toArray, List.set_cons_zero, List.set_cons_succ]
          refine one_to (i := 9) (l' := #[true, true, true, true, true, true, true, true, true, true, false, false, false, false, false, false, false]) rfl (by kernel_rfl) (by kernel_rfl) (fun K hK => ?_)
          go_simp
          refine hK.out _ _ (by (repeat (first | exact HV.out | apply MX.drew | apply MX.alloc | (refine MX.go ?_ (by assumption))))) (fun hHeld => ?_)
          clear hK K
          try simp only [Act.put, List.setIfInBounds_toArray, List.set_cons_zero, List.set_cons_succ]
          refine one_to (i := 10) (l' := #[true, true, true, true, true, true, true, true, true, true, true, false, false, false, false, false, false]) rfl (by kernel_rfl) (by kernel_rfl) (fun K hK => ?_)
          go_simp
          refine (KC0.out _ _ _ (by (try simp only [heap_drew]); repeat (first | (apply laid_at; simp; done) | apply laid_old | (refine laid_go ?_ (by assumption); try simp only [heap_drew]))) (by (try simp only [heap_drew]); repeat (first | (apply laid_at; simp; done) | apply laid_old | (refine laid_go ?_ (by assumption); try simp only [heap_drew]))) (by repeat (first | exact HV.out | apply MX.drew | apply MX.alloc | (refine MX.go ?_ (by assumption))))).mono ?_
          rintro e w11 ⟨rfl, hb11⟩
          dsimp only
          refine hK.out _ _ (by (repeat (first | exact HV.out | apply MX.drew | apply MX.alloc | (refine MX.go ?_ (by assumption))))) (fun hHeld => ?_)
          clear hK K
          try simp only [Act.put, List.setIfInBounds_toArray, List.set_cons_zero, List.set_cons_succ]
          refine take_to (i := 11) (d := some 98) (v := ?_) (l' := #[true, true, true, true, true, true, true, true, true, true, true, true, false, false, false, false, false]) rfl rfl (by kernel_rfl) (by kernel_rfl) (by kernel_rfl) (by kernel_rfl) (fun _ _ _ h => h) (Or.inl ⟨by rfl, ?_⟩) (by assumption) ?_; rotate_left; · (intro w' hSw; (try dsimp only at hSw); go_simp; (try with_reducible rfl))
          try simp only [Act.put, List.setIfInBounds_toArray, List.set_cons_zero, List.set_cons_succ]
          refine take_to (i := 12) (d := some 99) (v := ?_) (l' := #[true, true, true, true, true, true, true, true, true, true, true, true, true, false, false, false, false]) rfl rfl (by kernel_rfl) (by kernel_rfl) (by kernel_rfl) (by kernel_rfl) (fun _ _ _ h => h) (Or.inl ⟨by rfl, ?_⟩) (by assumption) ?_; rotate_left; · (intro w' hSw; (try dsimp only at hSw); go_simp; (try with_reducible rfl))
          try simp only [Act.put, List.setIfInBounds_toArray, List.set_cons_zero, List.set_cons_succ]
          refine take_to (i := 13) (d := some 100) (v := ?_) (l' := #[true, true, true, true, true, true, true, true, true, true, true, true, true, true, false, false, false]) rfl rfl (by kernel_rfl) (by kernel_rfl) (by kernel_rfl) (by kernel_rfl) (fun _ _ _ h => h) (Or.inl ⟨by rfl, ?_⟩) (by assumption) ?_; rotate_left; · (intro w' hSw; (try dsimp only at hSw); go_simp; (try with_reducible rfl))
          try simp only [Act.put, List.setIfInBounds_toArray, List.set_cons_zero, List.set_cons_succ]
          refine one_to (i := 14) (l' := #[true, true, true, true, true, true, true, true, true, true, true, true, true, true, true, false, false]) rfl (by kernel_rfl) (by kernel_rfl) (fun K hK => ?_)
          go_simp
          refine (HAW.out _ (by repeat (first | exact HV.out | apply MX.drew | apply MX.alloc | (refine MX.go ?_ (by assumption))))).mono ?_
          rintro e w12 ⟨rfl, hb12⟩
          dsimp only
          refine hK.out _ _ (by (repeat (first | exact HV.out | apply MX.drew | apply MX.alloc | (refine MX.go ?_ (by assumption))))) (fun hHeld => ?_)
          clear hK K
          try simp only [Act.put, List.setIfInBounds_toArray, List.set_cons_zero, List.set_cons_succ]
          refine take_to (i := 15) (d := some 102) (v := ?_) (l' := #[true, true, true, true, true, true, true, true, true, true, true, true, true, true, true, true, false]) rfl rfl (by kernel_rfl) (by kernel_rfl) (by kernel_rfl) (by kernel_rfl) (fun _ _ _ h => h) (Or.inl ⟨by rfl, ?_⟩) (by assumption) ?_; rotate_left; · (intro w' hSw; (try dsimp only at hSw); go_simp; (try with_reducible rfl))
          try simp only [Act.put, List.setIfInBounds_toArray, List.set_cons_zero, List.set_cons_succ]
          refine take_to (i := 16) (d := some 0) (v := ?_) (l' := #[true, true, true, true, true, true, true, true, true, true, true, true, true, true, true, true, true]) rfl rfl (by kernel_rfl) (by kernel_rfl) (by kernel_rfl) (by kernel_rfl) (fun _ _ _ h => h) (Or.inl ⟨by rfl, ?_⟩) (by assumption) ?_; rotate_left; · (intro w' hSw; (try dsimp only at hSw); go_simp; (try with_reducible rfl))
          try simp only [Act.put, List.setIfInBounds_toArray, List.set_cons_zero, List.set_cons_succ]
          refine wpAnyH_done (by kernel_rfl) ?_ _
          refine NoPanic.normal ?_
          have HF := Lib.hid hHeld.me.bel
          clear hHeld KTT KC0 HAW LT HV
          go_wp2
          go_ret
          exact ⟨rfl, HF.out⟩
end Go.Proofs.YthhjieagdkimfaaDoor
