/-
  The document's side of again: Same.
-/
import Derived.Test.YtcdnakbdajbfoaaGreatDoorZa
namespace Go.Proofs.YtcdnakbdajbfoaaGreatDoor
open Go.RowKit Go.Sort
set_option linter.unusedSimpArgs false
set_option linter.unusedVariables false
set_option maxRecDepth 20000

def samR (P Q : Nat → Int) : Bool := sqEq P Q && (P 128 == Q 128) && (P 129 == Q 129) && (tkO P == tkO Q)
theorem samR_is (P Q : Nat → Int) : samR P Q = (sqEq P Q && (P 128 == Q 128) && (P 129 == Q 129) && (tkO P == tkO Q)) := rfl
theorem samR_samB {P Q : Nat → Int} (h : ovU P = tkO P) (h2 : ovU Q = tkO Q) : samR P Q = samB P Q := by rw [samB_is, h, h2]; rfl
set_option maxHeartbeats 8000000 in
set_option maxRecDepth 100000 in
theorem rSame12_any (P Q : Nat → Int) (w : World) :
    Calls Tryz.prog 12 #[.agg (pc P).toArray, .agg (pc Q).toArray] w fun e w' => e = .returned (.bool (samR P Q)) ∧ Below w.heap.size w w' := by
  obtain ⟨X, hX⟩ : ∃ X, X = (pc P).toArray := ⟨_, rfl⟩
  obtain ⟨Y, hY⟩ : ∃ Y, Y = (pc Q).toArray := ⟨_, rfl⟩
  have HI := Lib.hid (SV.begin w P Q X Y hX hY)
  have MO := Lib.hid (fun P W (h : Below w.heap.size w W) => rOver12_any P W)
  have M1 := Lib.hid (MO.out P)
  have M2 := Lib.hid (MO.out Q)
  rw [← hX] at M1
  rw [← hY] at M2
  rw [← hX, ← hY]
  have hR := samR_is P Q
  obtain ⟨R, hRR⟩ : ∃ R, samR P Q = R := ⟨_, rfl⟩
  rw [hRR] at hR ⊢
  have c1 := Lib.hid (fun W (h : SV w W P Q) => h.p.cell 128 (by omega))
  have c2 := Lib.hid (fun W (h : SV w W P Q) => h.p.cell 129 (by omega))
  have d1 := Lib.hid (fun W (h : SV w W P Q) => h.q.cell 128 (by omega))
  have d2 := Lib.hid (fun W (h : SV w W P Q) => h.q.cell 129 (by omega))
  obtain ⟨U, hU⟩ : ∃ X, X = (nums P 0 128).toArray := ⟨_, rfl⟩
  obtain ⟨V0, hV⟩ : ∃ X, X = (nums Q 0 128).toArray := ⟨_, rfl⟩
  have he := fun W => eql_sqs P Q W
  rw [← hU, ← hV] at he
  have HU := Lib.hid hU
  have HV := Lib.hid hV
  have HX := Lib.hid hX
  have HY := Lib.hid hY
  generalize tkO P = o1 at *
  generalize tkO Q = o2 at *
  generalize P 128 = s1 at *
  generalize Q 128 = s2 at *
  generalize P 129 = k1 at *
  generalize Q 129 = k2 at *
  obtain ⟨e1, he1⟩ : ∃ e, sqEq P Q = e := ⟨_, rfl⟩
  rw [he1] at he hR
  have HR := Lib.hid hR
  clear hX hY hU hV he1 MO hRR hR
  go_enter Tryz.func12, Tryz.ntmps12
  go_upto_region 1 with (fail)
  refine forget_B (fun W => SV w W P Q) HI.out ?_
  clear HI
  intro W hi
  have HI := Lib.hid hi
  clear hi
  cases e1
  · skip
    refine wp_region_noPanic ?_
    refine wp_region_start (n := 27) (l := #[ff, ff, ff, ff, ff, ff, ff, ff, ff, ff, ff, ff, ff, ff, ff, ff, ff, ff, ff, ff, ff, ff, ff, ff, ff, ff, ff]) (S := (fun W => SV w W P Q)) (by kernel_rfl) rfl (by kernel_rfl) (by first | exact HI.out | exact HI.out.go (Below.refl _ _).drew) (fun hHeld => ?_)
    replace HI := Lib.hid (HI.out.go (Below.refl W.heap.size W).drew)
    generalize W.drew = V at *
    refine tq (i := 0) (d := some 5) rfl rfl ?_
    try simp only [aP, sA, sZ, sS]
    refine tg (i := 1) (d := some 6) (v := (.agg U)) rfl rfl ?_ ?_
    · exact yields_sqsC (by rfl) _ (by rfl) w.heap.size P U HU.out (by rfl) (fun W h => h.p)
    try simp only [aP, sA, sZ, sS]
    refine tq (i := 2) (d := some 7) rfl rfl ?_
    try simp only [aP, sA, sZ, sS]
    refine tg (i := 3) (d := some 8) (v := (.agg V0)) rfl rfl ?_ ?_
    · exact yields_sqsC (by rfl) _ (by rfl) (w.heap.size + 1) Q V0 HV.out (by rfl) (fun W h => h.q)
    try simp only [aP, sA, sZ, sS]
    refine tq (i := 4) (d := some 9) rfl rfl ?_
    try simp only [aP, sA, sZ, sS]
    refine tq (i := 5) (d := some 10) rfl rfl ?_
    try simp only [aP, sA, sZ, sS]
    refine tg (i := 6) (d := some 11) (v := undef) rfl rfl (Or.inr ⟨by rfl, rfl⟩) ?_
    try simp only [aP, sA, sZ, sS]
    refine tg (i := 7) (d := some 12) (v := undef) rfl rfl (Or.inr ⟨by rfl, rfl⟩) ?_
    try simp only [aP, sA, sZ, sS]
    refine tg (i := 8) (d := some 13) (v := undef) rfl rfl (Or.inr ⟨by rfl, rfl⟩) ?_
    try simp only [aP, sA, sZ, sS]
    refine tg (i := 9) (d := some 14) (v := undef) rfl rfl (Or.inr ⟨by rfl, rfl⟩) ?_
    try simp only [aP, sA, sZ, sS]
    refine tg (i := 10) (d := some 15) (v := undef) rfl rfl (Or.inr ⟨by rfl, rfl⟩) ?_
    try simp only [aP, sA, sZ, sS]
    refine tq (i := 11) (d := some 16) rfl rfl ?_
    try simp only [aP, sA, sZ, sS]
    refine tq (i := 12) (d := some 17) rfl rfl ?_
    try simp only [aP, sA, sZ, sS]
    refine tg (i := 13) (d := some 18) (v := undef) rfl rfl (Or.inr ⟨by rfl, rfl⟩) ?_
    try simp only [aP, sA, sZ, sS]
    refine tg (i := 14) (d := some 19) (v := undef) rfl rfl (Or.inr ⟨by rfl, rfl⟩) ?_
    try simp only [aP, sA, sZ, sS]
    refine tg (i := 15) (d := some 20) (v := undef) rfl rfl (Or.inr ⟨by rfl, rfl⟩) ?_
    try simp only [aP, sA, sZ, sS]
    refine tg (i := 16) (d := some 21) (v := undef) rfl rfl (Or.inr ⟨by rfl, rfl⟩) ?_
    try simp only [aP, sA, sZ, sS]
    refine tg (i := 17) (d := some 22) (v := undef) rfl rfl (Or.inr ⟨by rfl, rfl⟩) ?_
    try simp only [aP, sA, sZ, sS]
    refine tq (i := 18) (d := some 23) rfl rfl ?_
    try simp only [aP, sA, sZ, sS]
    refine tq (i := 19) (d := some 24) rfl rfl ?_
    try simp only [aP, sA, sZ, sS]
    refine tg (i := 20) (d := some 25) (v := undef) rfl rfl (Or.inr ⟨by rfl, rfl⟩) ?_
    try simp only [aP, sA, sZ, sS]
    refine tg (i := 22) (d := some 27) (v := undef) rfl rfl (Or.inr ⟨by rfl, rfl⟩) ?_
    try simp only [aP, sA, sZ, sS]
    refine og (i := 21) rfl (by kernel_rfl) (fun K hK => ?_)
    go_simp
    refine hK.out _ _ (by first | exact HI.out | exact HI.out.go (Below.refl _ _).drew) (fun hHeld => ?_)
    clear hK K
    try simp only [aP, sA, sZ, sS]
    refine og (i := 23) rfl (by kernel_rfl) (fun K hK => ?_)
    go_simp
    refine hK.out _ _ (by first | exact HI.out | exact HI.out.go (Below.refl _ _).drew) (fun hHeld => ?_)
    clear hK K
    try simp only [aP, sA, sZ, sS]
    refine tg (i := 24) (d := some 29) (v := undef) rfl rfl (Or.inr ⟨by rfl, rfl⟩) ?_
    try simp only [aP, sA, sZ, sS]
    refine tq (i := 25) (d := some 30) rfl rfl ?_
    try simp only [aP, sA, sZ, sS]
    refine tq (i := 26) (d := some 4) rfl rfl ?_
    try simp only [aP, sA, sZ, sS]
    refine wpAnyH_done (by kernel_rfl) ?_ _
    refine NoPanic.normal ?_
    clear hHeld
    clear M1 M2
    go_wp2
    go_ret
    exact ⟨q_b (by rw [HR.out]; rfl), HI.out.b⟩
  · by_cases h1 : s1 = s2
    · have g1 : (s1 == s2) = true := by simp [h1]
      have G1 := Lib.hid g1
      clear h1
      by_cases h2 : k1 = k2
      · have g2 : (k1 == k2) = true := by simp [h2]
        have G2 := Lib.hid g2
        clear h2
        refine wp_region_noPanic ?_
        refine wp_region_start (n := 27) (l := #[ff, ff, ff, ff, ff, ff, ff, ff, ff, ff, ff, ff, ff, ff, ff, ff, ff, ff, ff, ff, ff, ff, ff, ff, ff, ff, ff]) (S := (fun W => SV w W P Q)) (by kernel_rfl) rfl (by kernel_rfl) (by first | exact HI.out | exact HI.out.go (Below.refl _ _).drew) (fun hHeld => ?_)
        replace HI := Lib.hid (HI.out.go (Below.refl W.heap.size W).drew)
        generalize W.drew = V at *
        refine tq (i := 0) (d := some 5) rfl rfl ?_
        try simp only [aP, sA, sZ, sS]
        refine tg (i := 1) (d := some 6) (v := (.agg U)) rfl rfl ?_ ?_
        · exact yields_sqsC (by rfl) _ (by rfl) w.heap.size P U HU.out (by rfl) (fun W h => h.p)
        try simp only [aP, sA, sZ, sS]
        refine tq (i := 2) (d := some 7) rfl rfl ?_
        try simp only [aP, sA, sZ, sS]
        refine tg (i := 3) (d := some 8) (v := (.agg V0)) rfl rfl ?_ ?_
        · exact yields_sqsC (by rfl) _ (by rfl) (w.heap.size + 1) Q V0 HV.out (by rfl) (fun W h => h.q)
        try simp only [aP, sA, sZ, sS]
        refine tq (i := 4) (d := some 9) rfl rfl ?_
        try simp only [aP, sA, sZ, sS]
        refine tq (i := 5) (d := some 10) rfl rfl ?_
        try simp only [aP, sA, sZ, sS]
        refine tq (i := 6) (d := some 11) rfl rfl ?_
        try simp only [aP, sA, sZ, sS]
        refine tg (i := 7) (d := some 12) (v := (.int .i64 s1)) rfl rfl ?_ ?_
        · refine Or.inl ⟨by rfl, ?_⟩; intro w' hSw; (try dsimp only at hSw); have cc := c1.out _ hSw; go_simp
        try simp only [aP, sA, sZ, sS]
        refine tq (i := 8) (d := some 13) rfl rfl ?_
        try simp only [aP, sA, sZ, sS]
        refine tg (i := 9) (d := some 14) (v := (.int .i64 s2)) rfl rfl ?_ ?_
        · refine Or.inl ⟨by rfl, ?_⟩; intro w' hSw; (try dsimp only at hSw); have cc := d1.out _ hSw; go_simp
        try simp only [aP, sA, sZ, sS]
        refine tq (i := 10) (d := some 15) rfl rfl ?_
        try simp only [aP, sA, sZ, sS]
        refine tq (i := 11) (d := some 16) rfl rfl ?_
        try simp only [aP, sA, sZ, sS]
        refine tq (i := 12) (d := some 17) rfl rfl ?_
        try simp only [aP, sA, sZ, sS]
        refine tq (i := 13) (d := some 18) rfl rfl ?_
        try simp only [aP, sA, sZ, sS]
        refine tg (i := 14) (d := some 19) (v := (.int .i64 k1)) rfl rfl ?_ ?_
        · refine Or.inl ⟨by rfl, ?_⟩; intro w' hSw; (try dsimp only at hSw); have cc := c2.out _ hSw; go_simp
        try simp only [aP, sA, sZ, sS]
        refine tq (i := 15) (d := some 20) rfl rfl ?_
        try simp only [aP, sA, sZ, sS]
        refine tg (i := 16) (d := some 21) (v := (.int .i64 k2)) rfl rfl ?_ ?_
        · refine Or.inl ⟨by rfl, ?_⟩; intro w' hSw; (try dsimp only at hSw); have cc := d2.out _ hSw; go_simp
        try simp only [aP, sA, sZ, sS]
        refine tq (i := 17) (d := some 22) rfl rfl ?_
        try simp only [aP, sA, sZ, sS]
        refine tq (i := 18) (d := some 23) rfl rfl ?_
        try simp only [aP, sA, sZ, sS]
        refine tq (i := 19) (d := some 24) rfl rfl ?_
        try simp only [aP, sA, sZ, sS]
        refine tg (i := 20) (d := some 25) (v := (.agg X)) rfl rfl ?_ ?_
        · exact yields_posC (by rfl) _ (by rfl) w.heap.size P X HX.out (by rfl) (fun W h => h.p)
        try simp only [aP, sA, sZ, sS]
        refine tg (i := 22) (d := some 27) (v := (.agg Y)) rfl rfl ?_ ?_
        · exact yields_posC (by rfl) _ (by rfl) (w.heap.size + 1) Q Y HY.out (by rfl) (fun W h => h.q)
        try simp only [aP, sA, sZ, sS]
        refine og (i := 21) rfl (by kernel_rfl) (fun K hK => ?_)
        go_simp
        refine (M1.out _ HI.out.b).mono ?_
        rintro e V ⟨rfl, hb⟩
        replace HI := Lib.hid (HI.out.go hb)
        clear hb
        dsimp only
        refine hK.out _ _ (by first | exact HI.out | exact HI.out.go (Below.refl _ _).drew) (fun hHeld => ?_)
        clear hK K
        try simp only [aP, sA, sZ, sS]
        refine og (i := 23) rfl (by kernel_rfl) (fun K hK => ?_)
        go_simp
        refine (M2.out _ HI.out.b).mono ?_
        rintro e V ⟨rfl, hb⟩
        replace HI := Lib.hid (HI.out.go hb)
        clear hb
        dsimp only
        refine hK.out _ _ (by first | exact HI.out | exact HI.out.go (Below.refl _ _).drew) (fun hHeld => ?_)
        clear hK K
        try simp only [aP, sA, sZ, sS]
        refine tq (i := 24) (d := some 29) rfl rfl ?_
        try simp only [aP, sA, sZ, sS]
        refine tq (i := 25) (d := some 30) rfl rfl ?_
        try simp only [aP, sA, sZ, sS]
        refine tq (i := 26) (d := some 4) rfl rfl ?_
        try simp only [aP, sA, sZ, sS]
        refine wpAnyH_done (by kernel_rfl) ?_ _
        refine NoPanic.normal ?_
        clear hHeld
        clear M1 M2
        go_wp2
        go_ret
        exact ⟨q_b (by rw [HR.out, G1.out, G2.out]; rfl), HI.out.b⟩
      · have g2 : (k1 == k2) = false := by simpa using h2
        have G2 := Lib.hid g2
        clear h2
        refine wp_region_noPanic ?_
        refine wp_region_start (n := 27) (l := #[ff, ff, ff, ff, ff, ff, ff, ff, ff, ff, ff, ff, ff, ff, ff, ff, ff, ff, ff, ff, ff, ff, ff, ff, ff, ff, ff]) (S := (fun W => SV w W P Q)) (by kernel_rfl) rfl (by kernel_rfl) (by first | exact HI.out | exact HI.out.go (Below.refl _ _).drew) (fun hHeld => ?_)
        replace HI := Lib.hid (HI.out.go (Below.refl W.heap.size W).drew)
        generalize W.drew = V at *
        refine tq (i := 0) (d := some 5) rfl rfl ?_
        try simp only [aP, sA, sZ, sS]
        refine tg (i := 1) (d := some 6) (v := (.agg U)) rfl rfl ?_ ?_
        · exact yields_sqsC (by rfl) _ (by rfl) w.heap.size P U HU.out (by rfl) (fun W h => h.p)
        try simp only [aP, sA, sZ, sS]
        refine tq (i := 2) (d := some 7) rfl rfl ?_
        try simp only [aP, sA, sZ, sS]
        refine tg (i := 3) (d := some 8) (v := (.agg V0)) rfl rfl ?_ ?_
        · exact yields_sqsC (by rfl) _ (by rfl) (w.heap.size + 1) Q V0 HV.out (by rfl) (fun W h => h.q)
        try simp only [aP, sA, sZ, sS]
        refine tq (i := 4) (d := some 9) rfl rfl ?_
        try simp only [aP, sA, sZ, sS]
        refine tq (i := 5) (d := some 10) rfl rfl ?_
        try simp only [aP, sA, sZ, sS]
        refine tq (i := 6) (d := some 11) rfl rfl ?_
        try simp only [aP, sA, sZ, sS]
        refine tg (i := 7) (d := some 12) (v := (.int .i64 s1)) rfl rfl ?_ ?_
        · refine Or.inl ⟨by rfl, ?_⟩; intro w' hSw; (try dsimp only at hSw); have cc := c1.out _ hSw; go_simp
        try simp only [aP, sA, sZ, sS]
        refine tq (i := 8) (d := some 13) rfl rfl ?_
        try simp only [aP, sA, sZ, sS]
        refine tg (i := 9) (d := some 14) (v := (.int .i64 s2)) rfl rfl ?_ ?_
        · refine Or.inl ⟨by rfl, ?_⟩; intro w' hSw; (try dsimp only at hSw); have cc := d1.out _ hSw; go_simp
        try simp only [aP, sA, sZ, sS]
        refine tq (i := 10) (d := some 15) rfl rfl ?_
        try simp only [aP, sA, sZ, sS]
        refine tq (i := 11) (d := some 16) rfl rfl ?_
        try simp only [aP, sA, sZ, sS]
        refine tq (i := 12) (d := some 17) rfl rfl ?_
        try simp only [aP, sA, sZ, sS]
        refine tq (i := 13) (d := some 18) rfl rfl ?_
        try simp only [aP, sA, sZ, sS]
        refine tg (i := 14) (d := some 19) (v := (.int .i64 k1)) rfl rfl ?_ ?_
        · refine Or.inl ⟨by rfl, ?_⟩; intro w' hSw; (try dsimp only at hSw); have cc := c2.out _ hSw; go_simp
        try simp only [aP, sA, sZ, sS]
        refine tq (i := 15) (d := some 20) rfl rfl ?_
        try simp only [aP, sA, sZ, sS]
        refine tg (i := 16) (d := some 21) (v := (.int .i64 k2)) rfl rfl ?_ ?_
        · refine Or.inl ⟨by rfl, ?_⟩; intro w' hSw; (try dsimp only at hSw); have cc := d2.out _ hSw; go_simp
        try simp only [aP, sA, sZ, sS]
        refine tq (i := 17) (d := some 22) rfl rfl ?_
        try simp only [aP, sA, sZ, sS]
        refine tq (i := 18) (d := some 23) rfl rfl ?_
        try simp only [aP, sA, sZ, sS]
        refine tq (i := 19) (d := some 24) rfl rfl ?_
        try simp only [aP, sA, sZ, sS]
        refine tg (i := 20) (d := some 25) (v := undef) rfl rfl (Or.inr ⟨by rfl, rfl⟩) ?_
        try simp only [aP, sA, sZ, sS]
        refine tg (i := 22) (d := some 27) (v := undef) rfl rfl (Or.inr ⟨by rfl, rfl⟩) ?_
        try simp only [aP, sA, sZ, sS]
        refine og (i := 21) rfl (by kernel_rfl) (fun K hK => ?_)
        go_simp
        refine hK.out _ _ (by first | exact HI.out | exact HI.out.go (Below.refl _ _).drew) (fun hHeld => ?_)
        clear hK K
        try simp only [aP, sA, sZ, sS]
        refine og (i := 23) rfl (by kernel_rfl) (fun K hK => ?_)
        go_simp
        refine hK.out _ _ (by first | exact HI.out | exact HI.out.go (Below.refl _ _).drew) (fun hHeld => ?_)
        clear hK K
        try simp only [aP, sA, sZ, sS]
        refine tg (i := 24) (d := some 29) (v := undef) rfl rfl (Or.inr ⟨by rfl, rfl⟩) ?_
        try simp only [aP, sA, sZ, sS]
        refine tq (i := 25) (d := some 30) rfl rfl ?_
        try simp only [aP, sA, sZ, sS]
        refine tq (i := 26) (d := some 4) rfl rfl ?_
        try simp only [aP, sA, sZ, sS]
        refine wpAnyH_done (by kernel_rfl) ?_ _
        refine NoPanic.normal ?_
        clear hHeld
        clear M1 M2
        go_wp2
        go_ret
        exact ⟨q_b (by rw [HR.out, G1.out, G2.out]; rfl), HI.out.b⟩
    · have g1 : (s1 == s2) = false := by simpa using h1
      have G1 := Lib.hid g1
      clear h1
      refine wp_region_noPanic ?_
      refine wp_region_start (n := 27) (l := #[ff, ff, ff, ff, ff, ff, ff, ff, ff, ff, ff, ff, ff, ff, ff, ff, ff, ff, ff, ff, ff, ff, ff, ff, ff, ff, ff]) (S := (fun W => SV w W P Q)) (by kernel_rfl) rfl (by kernel_rfl) (by first | exact HI.out | exact HI.out.go (Below.refl _ _).drew) (fun hHeld => ?_)
      replace HI := Lib.hid (HI.out.go (Below.refl W.heap.size W).drew)
      generalize W.drew = V at *
      refine tq (i := 0) (d := some 5) rfl rfl ?_
      try simp only [aP, sA, sZ, sS]
      refine tg (i := 1) (d := some 6) (v := (.agg U)) rfl rfl ?_ ?_
      · exact yields_sqsC (by rfl) _ (by rfl) w.heap.size P U HU.out (by rfl) (fun W h => h.p)
      try simp only [aP, sA, sZ, sS]
      refine tq (i := 2) (d := some 7) rfl rfl ?_
      try simp only [aP, sA, sZ, sS]
      refine tg (i := 3) (d := some 8) (v := (.agg V0)) rfl rfl ?_ ?_
      · exact yields_sqsC (by rfl) _ (by rfl) (w.heap.size + 1) Q V0 HV.out (by rfl) (fun W h => h.q)
      try simp only [aP, sA, sZ, sS]
      refine tq (i := 4) (d := some 9) rfl rfl ?_
      try simp only [aP, sA, sZ, sS]
      refine tq (i := 5) (d := some 10) rfl rfl ?_
      try simp only [aP, sA, sZ, sS]
      refine tq (i := 6) (d := some 11) rfl rfl ?_
      try simp only [aP, sA, sZ, sS]
      refine tg (i := 7) (d := some 12) (v := (.int .i64 s1)) rfl rfl ?_ ?_
      · refine Or.inl ⟨by rfl, ?_⟩; intro w' hSw; (try dsimp only at hSw); have cc := c1.out _ hSw; go_simp
      try simp only [aP, sA, sZ, sS]
      refine tq (i := 8) (d := some 13) rfl rfl ?_
      try simp only [aP, sA, sZ, sS]
      refine tg (i := 9) (d := some 14) (v := (.int .i64 s2)) rfl rfl ?_ ?_
      · refine Or.inl ⟨by rfl, ?_⟩; intro w' hSw; (try dsimp only at hSw); have cc := d1.out _ hSw; go_simp
      try simp only [aP, sA, sZ, sS]
      refine tq (i := 10) (d := some 15) rfl rfl ?_
      try simp only [aP, sA, sZ, sS]
      refine tq (i := 11) (d := some 16) rfl rfl ?_
      try simp only [aP, sA, sZ, sS]
      refine tq (i := 12) (d := some 17) rfl rfl ?_
      try simp only [aP, sA, sZ, sS]
      refine tg (i := 13) (d := some 18) (v := undef) rfl rfl (Or.inr ⟨by rfl, rfl⟩) ?_
      try simp only [aP, sA, sZ, sS]
      refine tg (i := 14) (d := some 19) (v := undef) rfl rfl (Or.inr ⟨by rfl, rfl⟩) ?_
      try simp only [aP, sA, sZ, sS]
      refine tg (i := 15) (d := some 20) (v := undef) rfl rfl (Or.inr ⟨by rfl, rfl⟩) ?_
      try simp only [aP, sA, sZ, sS]
      refine tg (i := 16) (d := some 21) (v := undef) rfl rfl (Or.inr ⟨by rfl, rfl⟩) ?_
      try simp only [aP, sA, sZ, sS]
      refine tg (i := 17) (d := some 22) (v := undef) rfl rfl (Or.inr ⟨by rfl, rfl⟩) ?_
      try simp only [aP, sA, sZ, sS]
      refine tq (i := 18) (d := some 23) rfl rfl ?_
      try simp only [aP, sA, sZ, sS]
      refine tq (i := 19) (d := some 24) rfl rfl ?_
      try simp only [aP, sA, sZ, sS]
      refine tg (i := 20) (d := some 25) (v := undef) rfl rfl (Or.inr ⟨by rfl, rfl⟩) ?_
      try simp only [aP, sA, sZ, sS]
      refine tg (i := 22) (d := some 27) (v := undef) rfl rfl (Or.inr ⟨by rfl, rfl⟩) ?_
      try simp only [aP, sA, sZ, sS]
      refine og (i := 21) rfl (by kernel_rfl) (fun K hK => ?_)
      go_simp
      refine hK.out _ _ (by first | exact HI.out | exact HI.out.go (Below.refl _ _).drew) (fun hHeld => ?_)
      clear hK K
      try simp only [aP, sA, sZ, sS]
      refine og (i := 23) rfl (by kernel_rfl) (fun K hK => ?_)
      go_simp
      refine hK.out _ _ (by first | exact HI.out | exact HI.out.go (Below.refl _ _).drew) (fun hHeld => ?_)
      clear hK K
      try simp only [aP, sA, sZ, sS]
      refine tg (i := 24) (d := some 29) (v := undef) rfl rfl (Or.inr ⟨by rfl, rfl⟩) ?_
      try simp only [aP, sA, sZ, sS]
      refine tq (i := 25) (d := some 30) rfl rfl ?_
      try simp only [aP, sA, sZ, sS]
      refine tq (i := 26) (d := some 4) rfl rfl ?_
      try simp only [aP, sA, sZ, sS]
      refine wpAnyH_done (by kernel_rfl) ?_ _
      refine NoPanic.normal ?_
      clear hHeld
      clear M1 M2
      go_wp2
      go_ret
      exact ⟨q_b (by rw [HR.out, G1.out]; rfl), HI.out.b⟩
end Go.Proofs.YtcdnakbdajbfoaaGreatDoor
