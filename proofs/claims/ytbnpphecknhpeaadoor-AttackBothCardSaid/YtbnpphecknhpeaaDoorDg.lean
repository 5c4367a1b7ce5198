/-
  The iterator of what attacks a square.
-/
import Derived.Test.YtbnpphecknhpeaaDoorDe
import Derived.Test.YtbnpphecknhpeaaDoorDf
namespace Go.Proofs.YtbnpphecknhpeaaDoor
open Go.RowKit Go.Sort
set_option linter.unusedSimpArgs false
set_option linter.unusedVariables false
attribute [local go_sem] Oper.semAt_some

/-- the pieces of a kind that attack a square -/
def isIt (P : Nat → Int) (k d t : Int) : Bool := pe (P (2 * t.toNat)) (P (2 * t.toNat + 1)) k d
def atkK (P : Nat → Int) (s d : Int) (k : Nat) : List Int := (attL P s k (oth d)).filter (isIt P k d)
def atkUp (P : Nat → Int) (s d : Int) (n : Nat) : List Int := (List.range n).flatMap fun i => atkK P s d (i + 1)
/-- all that attack it, kind by kind -/
def atkL (P : Nat → Int) (s d : Int) : List Int := if sideB d then atkUp P s d 6 else []
theorem atkUp_succ (P : Nat → Int) (s d : Int) (n : Nat) : atkUp P s d (n + 1) = atkUp P s d n ++ atkK P s d (n + 1) := by
  unfold atkUp; rw [List.range_succ, List.flatMap_append]; simp
theorem atkUp_pre (P : Nat → Int) (s d : Int) {n m : Nat} (h : n ≤ m) : atkUp P s d n <+: atkUp P s d m := by
  induction m with
  | zero => obtain rfl : n = 0 := by omega
            exact List.prefix_refl _
  | succ m ih =>
    rcases (show n ≤ m ∨ n = m + 1 by omega) with h1 | rfl
    · rw [atkUp_succ]; exact (ih h1).trans (List.prefix_append _ _)
    · exact List.prefix_refl _
/-- what the iterator reads -/
structure BR (b fb sb bb : Nat) (P : Nat → Int) (s d : Int) (W : World) : Prop where
  a : AR b fb sb P s W
  y : W.heap[bb]? = some (.cells #[.int .i64 d] 23 (0, 0))
theorem BR.same {b fb sb bb : Nat} {P : Nat → Int} {s d : Int} {A B : World} (h : BR b fb sb bb P s d A) (hs : A.heap.size ≤ B.heap.size) (hx : ∀ k, AN b fb sb bb k → B.heap[k]? = A.heap[k]?) : BR b fb sb bb P s d B :=
  ⟨⟨(hx _ (.inr (.inl rfl))).trans h.a.f, (hx _ (.inr (.inr (.inl rfl)))).trans h.a.s, h.a.p.same hs (hx _ (.inl rfl)), (h.a.t.same (hx _ (.inr (.inr (.inr (.inr rfl)))))).mono hs⟩, (hx _ (.inr (.inr (.inr (.inl rfl))))).trans h.y⟩
theorem BR.lt {b fb sb bb : Nat} {P : Nat → Int} {s d : Int} {A : World} (h : BR b fb sb bb P s d A) : ∀ k, AN b fb sb bb k → k < A.heap.size := by
  rintro q (rfl | rfl | rfl | rfl | rfl)
  · exact h.a.p.lt
  · exact al_lt h.a.f
  · exact al_lt h.a.s
  · exact al_lt h.y
  · exact h.a.t.lt
theorem BR.reads (b fb sb bb : Nat) (P : Nat → Int) (s d : Int) : ∀ Y A B, BR b fb sb bb P s d A → (∀ q, Y q → ¬ AN b fb sb bb q) → Turns Y A B → BR b fb sb bb P s d B := fun Y A B h hx ht =>
  h.same ht.size fun k hk => ht.block k (h.lt k hk) (fun e => hx k e hk)
theorem BR.go {b fb sb bb : Nat} {P : Nat → Int} {s d : Int} {A B : World} (h : BR b fb sb bb P s d A) (g : Below A.heap.size A B) : BR b fb sb bb P s d B := h.same g.size fun k hk => g.block k (h.lt k hk)
theorem attackers_any (b : Nat) (s d : Int) (w : World) :
    Calls Tryd.prog 30 #[.pointer (some ⟨b, 0, none⟩), .int .i64 s, .int .i64 d] w fun e w' =>
      e = .returned (.func (.func 50) #[] #[.pointer (some ⟨w.heap.size + 2, 0, none⟩), .pointer (some ⟨w.heap.size, 0, none⟩), .pointer (some ⟨w.heap.size + 1, 0, none⟩)]) ∧
      w' = ((w.alloc (.cells #[.pointer (some ⟨b, 0, none⟩)] 68)).alloc (.cells #[.int .i64 s] 3)).alloc (.cells #[.int .i64 d] 23) := by
  go_enter Tryd.func30, Tryd.ntmps30
  go_wp2
  go_ret
  exact ⟨rfl, rfl⟩
theorem below_drewN (w : World) (n : Nat) : Below w.heap.size w (w.drewN n) := by
  induction n with
  | zero => exact Below.refl _ _
  | succ n ih => exact ih.trans (Below.refl _ _).drew
theorem al_lt' {W : World} {p : Nat × Obj} (h : W.heap[p.1]? = some p.2) : p.1 < W.heap.size := (Array.getElem?_eq_some_iff.1 h).1
def kindAt (a : Act) (w : World) : Int := match a.tmps.getD 5 undef with
  | .pointer (some p) => intOf ((w.cell? p).getD undef)
  | _ => 0
set_option maxHeartbeats 8000000 in
set_option maxRecDepth 100000 in
theorem attackers_comes (b fb sb bb : Nat) (P : Nat → Int) (s by' : Int) (w : World) (hbr : BR b fb sb bb P s by' w) :
    Comes Tryd.prog 50 #[.pointer (some ⟨bb, 0, none⟩), .pointer (some ⟨fb, 0, none⟩), .pointer (some ⟨sb, 0, none⟩)] (AN b fb sb bb) (Value.int .i64) (atkL P s by') w := by
  refine ⟨hbr.lt, fun l J Jx X W hW hXN hJ hJx hlt hY h0 => ?_⟩
  have HB0 := Lib.hid (hbr.go hW)
  obtain ⟨y0, yf, _⟩ := row1 (sl_go hbr.y hW)
  have HJ := Lib.hid hJ
  have HJX := Lib.hid hJx
  have HLT := Lib.hid hlt
  have HY := Lib.hid hY
  have HR := Lib.hid (BR.reads b fb sb bb P s by')
  have HK := Lib.hid (show Keep J (BR b fb sb bb P s by') (AN b fb sb bb) [] [] X W from ⟨h0, HB0.out, fun p hp => (by cases hp), fun q hq => ⟨hXN q hq, fun p hp => (by cases hp)⟩⟩)
  have HL := Lib.hid (show atkL P s by' = if sideB by' then atkUp P s by' 6 else [] from rfl)
  have HW0 := Lib.hid (Nat.le_refl W.heap.size)
  clear hJ hJx hlt hY h0 hXN hW hbr
  refine calls_of_marks Tryd.func50 rfl ?_
  simp only [Tryd.ntmps50, List.size_toArray, List.length_cons, List.length_nil, Nat.reduceAdd, Nat.reduceSub, Array.replicate_succ, Array.replicate_zero, List.push_toArray, List.append_toArray, List.nil_append, List.cons_append]
  go_wp2_with fail
  refine (aSide_any by' _).mono ?_
  cases hsd : sideB by'
  · have HE := Lib.hid (show atkL P s by' = [] by rw [HL.out, hsd]; rfl)
    clear hsd
    rintro e w1 ⟨rfl, rfl⟩
    have HK1 := Lib.hid (HK.out.go HR.out HJ.out (below_new (w := W) (.cells #[.func (.yield l) #[] #[]] 49)))
    clear HK HB0 y0 yf
    go_wp2
    exact ⟨_, results_none rfl _ _ _, ⟨⟨_, rfl⟩, X, .inl (by rw [HE.out]; exact HK1.out.j)⟩⟩
  · have HE := Lib.hid (show atkL P s by' = atkUp P s by' 6 by rw [HL.out, hsd]; rfl)
    have HSD := Lib.hid hsd
    clear hsd HL
    rintro e w1 ⟨rfl, rfl⟩
    have HK1 := Lib.hid (HK.out.add (t := W.heap.size) (o := .cells #[.func (.yield l) #[] #[]] 49) HR.out HJ.out HLT.out rfl)
    have HK2 := Lib.hid (HK1.out.add (t := W.heap.size + 1) (o := .cells #[.int .i64 1] 22) HR.out HJ.out HLT.out (by simp))
    clear HK HB0 y0 yf HK1
    go_wp2
    obtain ⟨yb, hyb⟩ : ∃ y, W.heap.size = y := ⟨_, rfl⟩
    rw [hyb] at HK2 HW0 HJ HJX
    simp only [hyb]
    refine wp_loop (fun a w => ∃ (k kb : Nat) (Ds : List Nat) (Y : Nat → Prop) (u6 u10 u11 u12 u13 u14 u15 u16 u17 u18 u19 u20 u21 u22 u23 u24 u25 u26 u27 u28 u29 u30 u31 u32 u33 u34 u35 u36 u37 u38 u39 : Value), 1 ≤ k ∧ k ≤ 7 ∧ Ds.Nodup ∧ (∀ D ∈ Ds, yb ≤ D) ∧ yb ≤ w.heap.size ∧ a = { tmps := #[.func (.yield l) #[] #[], .pointer (some ⟨bb, 0, none⟩), .pointer (some ⟨fb, 0, none⟩), .pointer (some ⟨sb, 0, none⟩), .pointer (some ⟨yb, 0, none⟩), .pointer (some ⟨kb, 0, none⟩), u6, .int .i64 by', .bool true, .bool false, u10, u11, u12, u13, u14, u15, u16, u17, u18, u19, u20, u21, u22, u23, u24, u25, u26, u27, u28, u29, u30, u31, u32, u33, u34, u35, u36, u37, u38, u39], defers := Ds.map markOf } ∧ Keep J (BR b fb sb bb P s by') (AN b fb sb bb) ((kb, .cells #[.int .i64 k] 22 (0, 0)) :: (yb, .cells #[.func (.yield l) #[] #[]] 49 (0, 0)) :: Ds.map fun D => (D, .deferred (some []))) (atkUp P s by' (k - 1)) Y w)
      (fun a w => 7 - (kindAt a w).toNat) ?start ?round
    case start => exact ⟨1, yb + 1, [], X, undef, undef, undef, undef, undef, undef, undef, undef, undef, undef, undef, undef, undef, undef, undef, undef, undef, undef, undef, undef, undef, undef, undef, undef, undef, undef, undef, undef, undef, undef, undef, by omega, by omega, List.nodup_nil, (fun D hD => by cases hD), by simp; omega, rfl, HK2.out⟩
    case round =>
      clear HK2 HW0
      rintro a wr ⟨k, kb, Ds, Y, u6, u10, u11, u12, u13, u14, u15, u16, u17, u18, u19, u20, u21, u22, u23, u24, u25, u26, u27, u28, u29, u30, u31, u32, u33, u34, u35, u36, u37, u38, u39, hk1, hk7, hnd, hdy, hyw, rfl, hkeep⟩
      have HK := Lib.hid hkeep
      have HND := Lib.hid hnd
      have HDY := Lib.hid hdy
      have HYW := Lib.hid hyw
      have hh := hkeep.head
      dsimp only at hh
      obtain ⟨k0, kf, _⟩ := row1 hh
      have hmu : kindAt { tmps := #[.func (.yield l) #[] #[], .pointer (some ⟨bb, 0, none⟩), .pointer (some ⟨fb, 0, none⟩), .pointer (some ⟨sb, 0, none⟩), .pointer (some ⟨yb, 0, none⟩), .pointer (some ⟨kb, 0, none⟩), u6, .int .i64 by', .bool true, .bool false, u10, u11, u12, u13, u14, u15, u16, u17, u18, u19, u20, u21, u22, u23, u24, u25, u26, u27, u28, u29, u30, u31, u32, u33, u34, u35, u36, u37, u38, u39], defers := Ds.map markOf } wr = (k : Int) := by simp [kindAt, k0, intOf]
      have HMU := Lib.hid hmu
      clear hkeep hnd hdy hyw hh hmu
      by_cases hlt : k < 7
      · have m1 : (k : Int) ≤ 6 := by omega
        have m0 : (1 : Int) ≤ k := by omega
        obtain ⟨f0, ff, _⟩ := row1 HK.out.r.a.f
        obtain ⟨s0, sf, _⟩ := row1 HK.out.r.a.s
        obtain ⟨d0, df, _⟩ := row1 HK.out.r.y
        go_upto_region 5 with (fail)
        have c0 := cell_regrown k0
        have c1 := cell_regrown f0
        have c2 := cell_regrown s0
        have c3 := cell_regrown d0
        have c18 := regrown_same (w := wr) (fun W => other_any by' W)
        refine wp_region_quiet_store 6 (by kernel_rfl) rfl rfl (by kernel_rfl) (by kernel_rfl) (C := fun W' => ∃ p : Regrown, W' = grow (redrawn wr p.d) p.os) (regrown_self _) ?_
        simp only [List.take_succ_cons, List.take_zero]
        repeat (quiet_step (exact c18 _ _))
        refine wpQuiet_nil ?_
        rintro W4 ⟨q, rfl⟩
        refine ⟨by rfl, ?_⟩
        have b4 := below_regrown wr q.d q.os
        have HK4 := Lib.hid (HK.out.go HR.out HJ.out b4)
        have HYW4 := Lib.hid (Nat.le_trans HYW.out b4.size)
        clear b4 c0 c1 c2 c3 c18 f0 ff s0 sf d0 df k0 kf HK HYW
        generalize grow (redrawn wr q.d) q.os = W4 at *
        go_simp
        refine (attacked_any b s k (oth by') W4).mono ?_
        rintro e w5 ⟨rfl, hw5⟩
        obtain ⟨H, hH⟩ : ∃ h, W4.heap.size = h := ⟨_, rfl⟩
        have hb5 : Below W4.heap.size W4 w5 := by rw [hw5]; exact ((below_new _).alloc (by simp) _).alloc (by simp; omega) _
        have hz5 : w5.heap.size = W4.heap.size + 3 := by rw [hw5]; simp
        have hfb : w5.heap[H]? = some (.cells #[.pointer (some ⟨b, 0, none⟩)] 68 (0, 0)) := by rw [hw5]; exact al_old (al_old (sl_at hH.symm) _) _
        have hsb : w5.heap[H + 1]? = some (.cells #[.int .i64 s] 3 (0, 0)) := by rw [hw5]; exact al_old (sl_at (by simp [hH])) _
        have hxb : w5.heap[H + 2]? = some (.cells #[.int .i64 k, .int .i64 (oth by')] 25 (0, 0)) := by rw [hw5]; exact sl_at (by simp [hH])
        have HK5 := Lib.hid (HK4.out.go HR.out HJ.out hb5)
        have hk4 := HK4.out
        have har : AR b H (H + 1) P s w5 := ⟨hfb, hsb, hk4.r.a.p.go hb5, (hk4.r.a.t.below hb5).mono hb5.size⟩
        have HDJ := Lib.hid (show ∀ q, Y q → ¬ AN b H (H + 1) (H + 2) q from fun q hq hn => by
          have h1 := HLT.out _ _ _ hk4.j q hq
          have h2 := (hk4.x q hq).1
          rcases hn with e | e | e | e | e
          · exact h2 (.inl e)
          · omega
          · omega
          · omega
          · exact h2 (.inr (.inr (.inr (.inr e)))))
        have HO := Lib.hid (fun p hp => Nat.lt_of_lt_of_le (al_lt' (hk4.o p hp)) hb5.size)
        have HN := Lib.hid (fun q hq => Nat.lt_of_lt_of_le (hk4.r.lt q hq) hb5.size)
        have HYW5 := Lib.hid (Nat.le_trans HYW4.out hb5.size)
        have HC := Lib.hid (attacked_comes b H (H + 1) (H + 2) P s k (oth by') w5 har hxb)
        rw [hH]
        clear hb5 hz5 hfb hsb hxb hk4 har HK4 hH hw5 HYW4
        go_wp2
        refine wp_range_over (gf := 42) (lb := #[.pointer (some ⟨H + 2, 0, none⟩), .pointer (some ⟨H + 1, 0, none⟩), .pointer (some ⟨H, 0, none⟩)]) rfl (enters_of Tryd.func42 (by kernel_rfl) rfl) HC.out (Below.refl _ _) rfl
          (fun pi Z W => Keep J (BR b fb sb bb P s by') (AN b fb sb bb) ((kb, .cells #[.int .i64 k] 22 (0, 0)) :: (yb, .cells #[.func (.yield l) #[] #[]] 49 (0, 0)) :: Ds.map fun D => (D, .deferred (some []))) (atkUp P s by' (k - 1) ++ pi.filter (isIt P k by')) Z W)
          (fun c pi Z W => c = .ret ∧ Jx (atkUp P s by' (k - 1) ++ pi.filter (isIt P k by')) Z W ∧ atkUp P s by' (k - 1) ++ pi.filter (isIt P k by') <+: atkL P s by' ∧ ∀ D ∈ Ds, W.heap[D]? = some (.deferred (some [])) ∧ ¬ Z D)
          (fun pi Z A B h hs => h.spare (fun _ _ hz hx h => h.same hz hx) HJ.out HYW5.out HN.out h.r.lt HO.out hs)
          (fun c pi Z A B h hs => ⟨h.1, HJX.out _ _ _ _ h.2.1 (hs.mono HYW5.out), h.2.2.1, fun D hD => ⟨(hs.block D (Array.getElem?_eq_some_iff.1 (h.2.2.2 D hD).1).1 (.inl (HO.out (D, .deferred (some [])) (List.mem_cons_of_mem _ (List.mem_cons_of_mem _ (List.mem_map.2 ⟨D, hD, rfl⟩)))))).trans (h.2.2.2 D hD).1, (h.2.2.2 D hD).2⟩⟩)
          (fun pi Z A h => HLT.out _ _ _ h.j) (X0 := Y) (by rw [List.filter_nil, List.append_nil]; exact HK5.out) HDJ.out
          (fun x => { tmps := #[.func (.yield l) #[] #[], .pointer (some ⟨bb, 0, none⟩), .pointer (some ⟨fb, 0, none⟩), .pointer (some ⟨sb, 0, none⟩), .pointer (some ⟨yb, 0, none⟩), .pointer (some ⟨kb, 0, none⟩), .int .i64 x, .int .i64 by', .bool true, .bool false, .int .i64 (k : Int), .bool true, u12, u13, .pointer (some ⟨b, 0, none⟩), .int .i64 s, .int .i64 (k : Int), .int .i64 by', .int .i64 (oth by'), .agg #[.int .i64 (k : Int), .int .i64 (oth by')], .func (.func 42) #[] #[.pointer (some ⟨H + 2, 0, none⟩), .pointer (some ⟨H + 1, 0, none⟩), .pointer (some ⟨H, 0, none⟩)], .int .i64 x, u22, u23, u24, u25, u26, u27, u28, u29, u30, u31, u32, u33, u34, u35, u36, u37, u38, u39], defers := [] }) ?assign ?body ?done ?stop
        case assign =>
          intro l' x W' K hK
          gi_wp2
          exact hK
        case body =>
          clear HK5 HDJ HC
          intro l' pi x Z W' hk hpre hzw
          have hsq := attL_sq P s k (oth by') x (hpre.subset (by simp))
          obtain ⟨x0, x1⟩ := (sq_iff x).1 hsq
          obtain ⟨n, rfl⟩ := Int.eq_ofNat_of_zero_le x0
          have HKB := Lib.hid hk
          have hh := hk.head
          have hy := hk.next
          dsimp only at hh hy
          obtain ⟨k0, kf, _⟩ := row1 hh
          obtain ⟨y0, yf, _⟩ := row1 hy
          obtain ⟨f0, ff, _⟩ := row1 hk.r.a.f
          obtain ⟨d0, df, _⟩ := row1 hk.r.y
          have hn64 : n < 64 := by omega
          have e1 := hk.r.a.p.cell (n * 2) (by omega)
          have e2 := hk.r.a.p.cell (n * 2 + 1) (by omega)
          have HIT := Lib.hid (show isIt P k by' n = pe (P (n * 2)) (P (n * 2 + 1)) k by' by unfold isIt; rw [Int.toNat_natCast, Nat.mul_comm 2 n])
          generalize P (n * 2) = pk at e1 HIT
          generalize P (n * 2 + 1) = pd at e2 HIT
          have HPF := Lib.hid (show isIt P k by' n = true → atkUp P s by' (k - 1) ++ pi.filter (isIt P k by') ++ [(n : Int)] <+: atkL P s by' from fun ht => by
            have h1 : pi.filter (isIt P k by') ++ [(n : Int)] <+: atkK P s by' k := by
              have h2 := hpre.filter (isIt P k by')
              rw [List.filter_append, List.filter_cons_of_pos ht, List.filter_nil] at h2
              exact h2
            have h3 : atkUp P s by' k = atkUp P s by' (k - 1) ++ atkK P s by' k := by
              have h4 := atkUp_succ P s by' (k - 1)
              rw [show k - 1 + 1 = k by omega] at h4
              exact h4
            rw [HE.out]
            refine List.IsPrefix.trans ?_ (atkUp_pre P s by' (show k ≤ 6 by omega))
            rw [h3, List.append_assoc]
            exact (List.prefix_append_right_inj _).2 h1)
          have HFI := Lib.hid (show pi.filter (isIt P k by') ++ (if isIt P k by' n then [(n : Int)] else []) = (pi ++ [(n : Int)]).filter (isIt P k by') by
            rw [List.filter_append]; cases hit : isIt P k by' n <;> simp [hit])
          clear hh hy hk hpre hsq
          obtain ⟨v, hv⟩ : ∃ v, pe pk pd k by' = v := ⟨_, rfl⟩
          rw [hv] at HIT
          rw [HIT.out] at HPF HFI
          clear HIT
          gi_wp2
          refine wpIn_region_cut_round 14 3 #[true, true, true, true, true, true, true, true, true, true, true, true, true, true, false, false, false] (by rfl) (by kernel_rfl) rfl (by kernel_rfl) (by kernel_rfl) (by kernel_rfl) (by rfl) ?_
          simp only [List.take_succ_cons, List.take_zero]
          cases v
          · repeat (gi_big_quiet_step (fail))
            refine wpQuietIn_nil ?_
            rintro _ ⟨nq, rfl⟩
            have HKD := Lib.hid (HKB.out.go HR.out HJ.out (below_drewN _ nq))
            have HB2 := Lib.hid (below_drewN W' nq)
            generalize W'.drewN nq = W7 at *
            refine wpAnyIn_ready (rs := [14]) (by kernel_rfl) (by simp) (AllReadyIn.cons rfl (fun K hK => ?_) AllReadyIn.nil)
            go_simp
            (try refine ⟨fun _ _ => trivial, ?_⟩)
            refine hK _ _ ?_
            clear hK K
            refine wpAnyIn_ready (rs := [15]) (by kernel_rfl) (by simp) (AllReadyIn.cons rfl (fun K hK => ?_) AllReadyIn.nil)
            go_simp
            (try refine ⟨fun _ _ => trivial, ?_⟩)
            refine hK _ _ ?_
            clear hK K
            refine wpAnyIn_ready (rs := [16]) (by kernel_rfl) (by simp) (AllReadyIn.cons rfl (fun K hK => ?_) AllReadyIn.nil)
            go_simp
            (try refine ⟨fun _ _ => trivial, ?_⟩)
            refine hK _ _ ?_
            clear hK K
            refine wpAnyIn_done (by kernel_rfl) ?_ _
            gi_wp2
            exact ⟨Z, Turns.of_below HB2.out, fun q hq => .inl hq, by dsimp only; rw [← HFI.out]; simpa using HKD.out⟩
          · repeat (gi_big_quiet_step (fail))
            refine wpQuietIn_nil ?_
            rintro _ ⟨nq, rfl⟩
            have HKD := Lib.hid (HKB.out.go HR.out HJ.out (below_drewN _ nq))
            have HB2 := Lib.hid (below_drewN W' nq)
            generalize W'.drewN nq = W7 at *
            obtain ⟨fn, tmps, assign, body, hy, hR8⟩ := HY.out _ (n : Int) Z W7 HKD.out.j (HPF.out rfl)
            refine wpAnyIn_ready (rs := [14]) (by kernel_rfl) (by simp) (AllReadyIn.cons rfl (fun K hK => ?_) AllReadyIn.nil)
            go_simp
            refine ⟨rfl, (roundIn_wide hR8).mono ?_⟩
            clear hR8 hy
            rintro e B ⟨Z2, hT, hZ2, (⟨rfl, hJB⟩ | ⟨rfl, hJB⟩)⟩
            · have HK8 := Lib.hid (HKD.out.turn HR.out HKD.out.r.lt hT hZ2 hJB)
              have HT8 := Lib.hid ((Turns.of_below (X := Z) HB2.out).trans hT fun q hq => .inl hq)
              have HZ8 := Lib.hid (show ∀ q, Z2 q → Z q ∨ W'.heap.size ≤ q from fun q hq => (hZ2 q hq).imp id fun h => Nat.le_trans HB2.out.size h)
              clear hT hZ2 hJB HKB HKD HB2
              refine hK _ _ ?_
              clear hK K
              refine wpAnyIn_ready (rs := [15]) (by kernel_rfl) (by simp) (AllReadyIn.cons rfl (fun K hK => ?_) AllReadyIn.nil)
              go_simp
              (try refine ⟨fun _ _ => trivial, ?_⟩)
              refine hK _ _ ?_
              clear hK K
              refine wpAnyIn_ready (rs := [16]) (by kernel_rfl) (by simp) (AllReadyIn.cons rfl (fun K hK => ?_) AllReadyIn.nil)
              go_simp
              (try refine ⟨fun _ _ => trivial, ?_⟩)
              refine hK _ _ ?_
              clear hK K
              refine wpAnyIn_done (by kernel_rfl) ?_ _
              gi_wp2
              exact ⟨Z2, HT8.out, HZ8.out, by dsimp only; rw [← HFI.out, ← List.append_assoc]; exact HK8.out⟩
            · have HT8 := Lib.hid ((Turns.of_below (X := Z) HB2.out).trans hT fun q hq => .inl hq)
              have HZ8 := Lib.hid (show ∀ q, Z2 q → Z q ∨ W'.heap.size ≤ q from fun q hq => (hZ2 q hq).imp id fun h => Nat.le_trans HB2.out.size h)
              have HJ8 := Lib.hid hJB
              have HD8 := Lib.hid (show ∀ D ∈ Ds, B.heap[D]? = some (.deferred (some [])) ∧ ¬ Z2 D from fun D hD => by
                have hm : (D, Obj.deferred (some [])) ∈ ((kb, .cells #[.int .i64 k] 22 (0, 0)) :: (yb, .cells #[.func (.yield l) #[] #[]] 49 (0, 0)) :: Ds.map fun D => (D, .deferred (some []))) := List.mem_cons_of_mem _ (List.mem_cons_of_mem _ (List.mem_map.2 ⟨D, hD, rfl⟩))
                have h1 := HKD.out.o _ hm
                have hnz : ¬ Z D := fun hz => (HKD.out.x D hz).2 _ hm rfl
                have hlt := (Array.getElem?_eq_some_iff.1 h1).1
                exact ⟨(hT.block D hlt hnz).trans h1, fun hz => by rcases hZ2 D hz with h2 | h2; exact hnz h2; exact absurd h2 (by simpa using hlt)⟩)
              clear hT hZ2 hJB HKB HKD HB2
              refine hK _ _ ?_
              clear hK K
              refine wpAnyIn_ready (rs := [15]) (by kernel_rfl) (by simp) (AllReadyIn.cons rfl (fun K hK => ?_) AllReadyIn.nil)
              go_simp
              (try refine ⟨fun _ _ => trivial, ?_⟩)
              refine hK _ _ ?_
              clear hK K
              refine wpAnyIn_ready (rs := [16]) (by kernel_rfl) (by simp) (AllReadyIn.cons rfl (fun K hK => ?_) AllReadyIn.nil)
              go_simp
              (try refine ⟨fun _ _ => trivial, ?_⟩)
              refine hK _ _ ?_
              clear hK K
              refine wpAnyIn_done (by kernel_rfl) ?_ _
              gi_wp2
              refine ⟨Z2, HT8.out, HZ8.out, rfl, ?_, ?_, HD8.out⟩
              · rw [← HFI.out, ← List.append_assoc]; exact HJ8.out
              · rw [← HFI.out, ← List.append_assoc]; exact HPF.out (by first | rfl | trivial)
        case done =>
          intro Y2 B hk hd hny _
          have hh := hk.head
          dsimp only at hh
          obtain ⟨k0, kf, _⟩ := row1 hh
          have HK6 := Lib.hid (((hk.drop).put (p := (w5.heap.size, .deferred (some []))) hd hny).add (t := B.heap.size) (o := .cells #[.int .i64 ((k + 1 : Nat) : Int)] 22 (0, 0)) HR.out HJ.out HLT.out rfl)
          have HND2 := Lib.hid (show (w5.heap.size :: Ds).Nodup from List.nodup_cons.2 ⟨fun hm => by
            have := HO.out (w5.heap.size, .deferred (some [])) (List.mem_cons_of_mem _ (List.mem_cons_of_mem _ (List.mem_map.2 ⟨_, hm, rfl⟩)))
            simp at this, HND.out⟩)
          have HZB := Lib.hid (show yb ≤ B.heap.size by have h1 := (Array.getElem?_eq_some_iff.1 hd).1; have := HYW5.out; omega)
          have HUP := Lib.hid (show atkUp P s by' (k + 1 - 1) = atkUp P s by' (k - 1) ++ (attL P s k (oth by')).filter (isIt P k by') by
            have h4 := atkUp_succ P s by' (k - 1)
            rw [show k - 1 + 1 = k by omega] at h4
            rw [Nat.add_sub_cancel, h4]; rfl)
          clear hh hd hny HK5 HDJ HC hk
          go_wp2
          refine ⟨⟨k + 1, B.heap.size, w5.heap.size :: Ds, Y2, u6, .int .i64 (k : Int), .bool true, .int .i64 (k : Int), .int .i64 ((k : Int) + 1), .pointer (some ⟨b, 0, none⟩), .int .i64 s, .int .i64 (k : Int), .int .i64 by', .int .i64 (oth by'), .agg #[.int .i64 (k : Int), .int .i64 (oth by')], .func (.func 42) #[] #[.pointer (some ⟨H + 2, 0, none⟩), .pointer (some ⟨H + 1, 0, none⟩), .pointer (some ⟨H, 0, none⟩)], u21, u22, u23, u24, u25, u26, u27, u28, u29, u30, u31, u32, u33, u34, u35, u36, u37, u38, .int .i64 (k : Int), by omega, by omega, HND2.out, ?_, by simp; have := HZB.out; omega, by go_num, ?_⟩, ?_⟩
          · intro D hD
            rcases List.mem_cons.1 hD with rfl | hD
            · exact HYW5.out
            · exact HDY.out D hD
          · rw [HUP.out]
            refine HK6.out.sub fun p hp => ?_
            rcases List.mem_cons.1 hp with rfl | hp
            · exact List.mem_cons_self ..
            · rcases List.mem_cons.1 hp with rfl | hp
              · exact List.mem_cons_of_mem _ (List.mem_cons_of_mem _ (List.mem_cons_self ..))
              · rcases List.mem_cons.1 hp with rfl | hp
                · exact List.mem_cons_of_mem _ (List.mem_cons_self ..)
                · exact List.mem_cons_of_mem _ (List.mem_cons_of_mem _ (List.mem_cons_of_mem _ hp))
          · rw [HMU.out]
            have hnew : kindAt { tmps := #[.func (.yield l) #[] #[], .pointer (some ⟨bb, 0, none⟩), .pointer (some ⟨fb, 0, none⟩), .pointer (some ⟨sb, 0, none⟩), .pointer (some ⟨yb, 0, none⟩), .pointer (some ⟨B.heap.size, 0, none⟩), u6, .int .i64 by', .bool true, .bool false, .int .i64 (k : Int), .bool true, .int .i64 (k : Int), .int .i64 ((k : Int) + 1), .pointer (some ⟨b, 0, none⟩), .int .i64 s, .int .i64 (k : Int), .int .i64 by', .int .i64 (oth by'), .agg #[.int .i64 (k : Int), .int .i64 (oth by')], .func (.func 42) #[] #[.pointer (some ⟨H + 2, 0, none⟩), .pointer (some ⟨H + 1, 0, none⟩), .pointer (some ⟨H, 0, none⟩)], u21, u22, u23, u24, u25, u26, u27, u28, u29, u30, u31, u32, u33, u34, u35, u36, u37, u38, .int .i64 (k : Int)], defers := { target := .collected w5.heap.size, args := #[] } :: Ds.map markOf } (B.alloc (.cells #[.int .i64 ((k : Int) + 1)] 22)) = (k : Int) + 1 := by
              unfold kindAt
              simp only [Array.getD_eq_getD_getElem?, List.getElem?_toArray, List.getElem?_cons_succ, List.getElem?_cons_zero, Option.getD_some]
              rw [(row1 (sl_at (W := B) (o := .cells #[.int .i64 ((k : Int) + 1)] 22 (0, 0)) rfl)).1]
              rfl
            rw [hnew]
            omega
        case stop =>
          rintro c pi Y2 B hpre ⟨rfl, hj, hp2, hds⟩ hd hny _
          have HND2 := Lib.hid (show (w5.heap.size :: Ds).Nodup from List.nodup_cons.2 ⟨fun hm => by
            have := HO.out (w5.heap.size, .deferred (some [])) (List.mem_cons_of_mem _ (List.mem_cons_of_mem _ (List.mem_map.2 ⟨_, hm, rfl⟩)))
            simp at this, HND.out⟩)
          have HJ8 := Lib.hid hj
          have HP8 := Lib.hid hp2
          have HD8 := Lib.hid hds
          have HD9 := Lib.hid hd
          have HY9 := Lib.hid hny
          clear HK5 HDJ HC hj hp2 hpre hds hd hny
          go_wp2
          refine leaves_marks (T := fun W' => Jx (atkUp P s by' (k - 1) ++ pi.filter (isIt P k by')) Y2 W') (G := fun D => ¬ Y2 D ∧ yb ≤ D) (fun D W' hg hj _ => HJX.out _ _ _ _ hj (spares_putObj _ hg.2 hg.1)) (fun W' hj => ⟨_, results_none rfl _ _ _, ⟨⟨_, rfl⟩, Y2, .inr ⟨_, HP8.out, hj⟩⟩⟩) (w5.heap.size :: Ds) _ HND2.out (fun D hD => ?_) HJ8.out
          rcases List.mem_cons.1 hD with rfl | hD
          · exact ⟨HD9.out, HY9.out, HYW5.out⟩
          · exact ⟨(HD8.out D hD).1, (HD8.out D hD).2, HDY.out D hD⟩
      · obtain rfl : k = 7 := by omega
        go_wp2
        refine leaves_marks (T := fun W' => J (atkUp P s by' 6) Y W') (G := fun D => ¬ Y D ∧ yb ≤ D) (fun D W' hg hj _ => HJ.out _ _ _ _ hj (spares_putObj _ hg.2 hg.1)) (fun W' hj => ⟨_, results_none rfl _ _ _, ⟨⟨_, rfl⟩, Y, .inl (by rw [HE.out]; exact hj)⟩⟩) Ds _ HND.out (fun D hD => ?_) HK.out.j
        have hm : (D, Obj.deferred (some [])) ∈ (kb, Obj.cells #[.int .i64 7] 22 (0, 0)) :: (yb, Obj.cells #[.func (.yield l) #[] #[]] 49 (0, 0)) :: Ds.map fun D => (D, Obj.deferred (some [])) := List.mem_cons_of_mem _ (List.mem_cons_of_mem _ (List.mem_map.2 ⟨D, hD, rfl⟩))
        exact ⟨HK.out.o _ hm, fun hy => (HK.out.x D hy).2 _ hm rfl, HDY.out D hD⟩
end Go.Proofs.YtbnpphecknhpeaaDoor
