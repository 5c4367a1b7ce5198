/-
  Games: a game comes to a position: its book.
-/
import Derived.Test.YtkncfeijlmomaaaGreatDoorLc
namespace Go.Proofs.YtkncfeijlmomaaaGreatDoor
open Go.RowKit Go.Sort Go.Maps
set_option linter.unusedSimpArgs false
set_option linter.unusedVariables false
set_option maxRecDepth 20000

/-- what stands while a game comes to a position -/
structure GQ (B base : Nat) (g : Gm) (Q : Nat → Int) (w W : World) : Prop where
  p : PB W w.heap.size Q
  m : GW base g W
  bl : Below w.heap.size w W
  e : EN B W
theorem GQ.go {B base : Nat} {g : Gm} {Q : Nat → Int} {w W W' : World} (h : GQ B base g Q w W) (b : Below W.heap.size W W') : GQ B base g Q w W' := ⟨h.p.go b, h.m.go b, h.bl.trans (b.mono h.bl.size), h.e.go b⟩
theorem GQ.begin {B base : Nat} {g : Gm} {Q : Nat → Int} {w : World} (X : Array Value) (hX : X = (pc Q).toArray) (h : GW base g w) (he : EN B w) : GQ B base g Q w (w.alloc (.cells X 29)) :=
  ⟨by rw [hX]; exact PB.new rfl, h.go (below_new _), below_new _, he.go (below_new _)⟩
/-- the blocks that turn -/
def Gm.Y (g : Gm) (k : Nat) : Prop := k = g.gb ∨ k = g.b ∨ k = g.mb
/-- a position more in its book -/
def Gm.puts (g : Gm) (Q : Nat → Int) : Gm := { g with P := Q, T := kyB Q :: g.T, n := cntT (kyB Q :: g.T) (kyB Q) }
set_option maxHeartbeats 4000000 in
set_option maxRecDepth 100000 in
theorem gput_any (B base : Nat) (g : Gm) (Q : Nat → Int) (hQ : InW Q) (hT : g.T.length ≤ 1000000) (w : World) (h : GW base g w) (he : EN B w) :
    Calls Tryz.prog 69 #[.pointer (some ⟨g.gb, 0, none⟩), .agg (pc Q).toArray] w fun e w' => e = .returned (.tuple #[]) ∧ GW base (g.puts Q) w' ∧ Ch g.Y w w' := by
  obtain ⟨X, hX⟩ : ∃ X, X = (pc Q).toArray := ⟨_, rfl⟩
  have HI := Lib.hid (GQ.begin X hX h he)
  have HNB := Lib.hid (show w.heap.size ≠ g.b ∧ w.heap.size ≠ g.mb ∧ w.heap.size ≠ g.gb from ⟨by have := h.k.ltb; omega, by have := h.k.m.lt; omega, by have := h.lt; omega⟩)
  have MP := Lib.hid (fun W (h : GQ B base g Q w W) => put_any12 B g.b g.mb g.T Q hQ hT W h.m.k h.e)
  have HCL := Lib.hid (fun W V V' (b : Below w.heap.size w W) (t : Two g.b g.mb W V) (c1 : Ch (fun k => k = g.gb) V V') => ((Ch.bel (X := g.Y) b).trans (Ch.two (X := g.Y) t (.inr (.inl rfl)) (.inr (.inr rfl))) (fun _ _ hx => hx)).trans c1 fun _ _ hx => .inl hx)
  obtain ⟨n, hn⟩ : ∃ n, cntT (kyB Q :: g.T) (kyB Q) = n := ⟨_, rfl⟩
  have HV := Lib.hid (show g.puts Q = { g with P := Q, T := kyB Q :: g.T, n := n } by unfold Gm.puts; rw [hn])
  rw [← hX, hn] at MP
  rw [← hX]
  have HX := Lib.hid hX
  clear hX h he hQ hT hn
  go_enter Tryz.func69, Tryz.ntmps69
  go_upto_region 1 with (fail)
  generalize w.alloc (.cells X 29) = W0 at *
  have xz := HI.out.m.lt
  refine wp_region_noPanic ?_
  have HSS := Lib.hid (fun (g' : Gm) V (h1 : PB V w.heap.size Q) (h2 : GW base g' V) (e1 : g'.gb = g.gb) (e2 : g'.b = g.b) => (show PB V w.heap.size Q ∧ V.cell? ⟨g.gb, 133, none⟩ = some (.pointer (some ⟨g.b, 0, none⟩)) from ⟨h1, by have := h2.cell.2.1; rw [e1, e2] at this; exact this⟩))
  refine wp_region_start (n := 15) (l := #[ff, ff, ff, ff, ff, ff, ff, ff, ff, ff, ff, ff, ff, ff, ff]) (S := (fun W => PB W w.heap.size Q ∧ W.cell? ⟨g.gb, 133, none⟩ = some (.pointer (some ⟨g.b, 0, none⟩)))) (by kernel_rfl) rfl (by kernel_rfl) (by exact HSS.out g _ (HI.out.go (Below.refl _ _).drew).p (HI.out.go (Below.refl _ _).drew).m rfl rfl) (fun hHeld => ?_)
  replace HI := Lib.hid (HI.out.go (Below.refl W0.heap.size W0).drew)
  generalize W0.drew = V0 at *
  refine tq (i := 0) (d := some 4) rfl rfl ?_
  try simp only [aP, sA, sZ, sS]
  refine tq (i := 1) (d := some 5) rfl rfl ?_
  try simp only [aP, sA, sZ, sS]
  refine tg (i := 2) (d := some 6) (v := (.agg X)) rfl rfl ?_ ?_
  · exact yields_posC (by rfl) _ (by rfl) w.heap.size Q X HX.out (by rfl) (fun W h => h.1)
  try simp only [aP, sA, sZ, sS]
  refine tq (i := 3) (d := some 7) rfl rfl ?_
  try simp only [aP, sA, sZ, sS]
  refine tq (i := 4) (d := some 8) rfl rfl ?_
  try simp only [aP, sA, sZ, sS]
  refine tq (i := 5) (d := some 9) rfl rfl ?_
  try simp only [aP, sA, sZ, sS]
  refine tg (i := 6) (d := some 10) (v := (.pointer (some ⟨g.b, 0, none⟩))) rfl rfl ?_ ?_
  · refine Or.inl ⟨by rfl, ?_⟩; intro w' hSw; have e := hSw.2; go_simp
  try simp only [aP, sA, sZ, sS]
  refine tg (i := 7) (d := some 11) (v := (.agg X)) rfl rfl ?_ ?_
  · exact yields_posC (by rfl) _ (by rfl) w.heap.size Q X HX.out (by rfl) (fun W h => h.1)
  try simp only [aP, sA, sZ, sS]
  refine og (i := 8) rfl (by kernel_rfl) (fun K hK => ?_)
  go_simp
  refine (MP.out _ HI.out).mono ?_
  rintro e V ⟨rfl, hk, h2⟩
  have HM := Lib.hid (HI.out.m.put hk h2)
  have HP := Lib.hid (h2.pb HI.out.p HNB.out.1 HNB.out.2.1)
  replace HCL := Lib.hid (fun V' => HCL.out V0 V V' HI.out.bl h2)
  clear hk h2 MP HI
  dsimp only
  refine hK.out _ _ (by exact HSS.out _ _ HP.out HM.out rfl rfl) (fun hHeld => ?_)
  clear hK K
  try simp only [aP, sA, sZ, sS]
  refine tq (i := 9) (d := some 13) rfl rfl ?_
  try simp only [aP, sA, sZ, sS]
  refine tq (i := 10) (d := some 14) rfl rfl ?_
  try simp only [aP, sA, sZ, sS]
  refine og (i := 11) rfl (by kernel_rfl) (fun K hK => ?_)
  refine wp_store_mid 29 _ _ rfl g.gb 0 (pc Q).toArray rfl (congrArg Value.agg HX.out) (by rw [pc_size]; exact HM.out.pb.there) (by rw [infoPos, pc_size]) (pc_one _) ?_
  rw [List.toList_toArray]
  have HM2 := Lib.hid (HM.out.setP Q)
  have HC2 := Lib.hid (Ch.gr (X := fun k => k = g.gb) (grs_B (hb := g.gb) (pc Q) 0 V) rfl)
  have HP2 := Lib.hid (HC2.out.pb HP.out HNB.out.2.2)
  clear HM HP
  generalize V.setCells g.gb 0 (pc Q) = V2 at *
  refine hK.out _ _ (by exact HSS.out _ _ HP2.out HM2.out rfl rfl) (fun hHeld => ?_)
  clear hK K
  try simp only [aP, sA, sZ, sS]
  refine tq (i := 12) (d := some 15) rfl rfl ?_
  try simp only [aP, sA, sZ, sS]
  refine tq (i := 13) (d := some 16) rfl rfl ?_
  try simp only [aP, sA, sZ, sS]
  refine og (i := 14) rfl (by kernel_rfl) (fun K hK => ?_)
  obtain ⟨_, _, c1, _, _, _, _, c0⟩ := HM2.out.cell
  have c0 := c0 134
  have c2 := HM2.out.lt
  go_simp
  have HM3 := Lib.hid (HM2.out.setN n)
  have HC3 := Lib.hid (HC2.out.trans (Ch.gr (X := fun k => k = g.gb) (gr1_B (hb := g.gb) (i := 134) (w := V2) (.int .i64 (n : Int))) rfl) fun _ _ hx => hx)
  have HP3 := Lib.hid ((Ch.gr (X := fun k => k = g.gb) (gr1_B (hb := g.gb) (i := 134) (w := V2) (.int .i64 (n : Int))) rfl).pb HP2.out HNB.out.2.2)
  refine hK.out _ _ (by exact HSS.out _ _ HP3.out HM3.out rfl rfl) (fun hHeld => ?_)
  clear hK K
  try simp only [aP, sA, sZ, sS]
  refine wpAnyH_done (by kernel_rfl) ?_ _
  refine NoPanic.normal ?_
  clear hHeld
  go_wp2
  go_end0
  exact ⟨rfl, by rw [HV.out]; exact HM3.out, HCL.out _ HC3.out⟩
end Go.Proofs.YtkncfeijlmomaaaGreatDoor
