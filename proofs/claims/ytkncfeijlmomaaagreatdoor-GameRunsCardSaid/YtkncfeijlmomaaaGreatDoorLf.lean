/-
  Games: a game comes to a position; what it tells of itself.
-/
import Derived.Lib.LazyBuf
import Derived.Test.YtkncfeijlmomaaaGreatDoorLe
namespace Go.Proofs.YtkncfeijlmomaaaGreatDoor
open Go.RowKit Go.Sort Go.Maps
set_option linter.unusedSimpArgs false
set_option linter.unusedVariables false
set_option maxRecDepth 20000

/-- a game that came to a position -/
def Gm.comes (g : Gm) (Q : Nat → Int) : Gm := { g with P := Q, T := kyB Q :: g.T, n := cntT (kyB Q :: g.T) (kyB Q), r := endR Q (cntT (kyB Q :: g.T) (kyB Q)), y := endY Q (cntT (kyB Q :: g.T) (kyB Q)) }
theorem Gdid.ry {base : Nat} {g g1 : Gm} {w w1 w2 : World} (h : GW base g1 w1) (c : Ch g.Y w w1) (b : Below w1.heap.size w1 w2) (e : g1.gb = g.gb) (r y : Int) :
    GW base { g1 with r := r, y := y } ((w2.setCell ⟨g.gb, 136, none⟩ (.int .i64 r)).setCell ⟨g.gb, 137, none⟩ (.int .i64 y)) ∧ Ch g.Y w ((w2.setCell ⟨g.gb, 136, none⟩ (.int .i64 r)).setCell ⟨g.gb, 137, none⟩ (.int .i64 y)) := by
  have := Gdid.two h b r y
  rw [← e]
  exact ⟨this.m, c.trans this.c fun _ _ hx => .inl (hx.trans e)⟩
set_option maxHeartbeats 4000000 in
set_option maxRecDepth 100000 in
theorem gcome_any (B base : Nat) (g : Gm) (Q : Nat → Int) (hQ : InW Q) (hT : g.T.length ≤ 999999) (w : World) (h : GW base g w) (he : EN B w) (hB : base ≤ w.heap.size) (hbb : B ≤ base) :
    Calls Tryz.prog 40 #[.pointer (some ⟨g.gb, 0, none⟩), .agg (pc Q).toArray] w fun e w' => e = .returned (.tuple #[]) ∧ GW base (g.comes Q) w' ∧ Ch g.Y w w' := by
  obtain ⟨X, hX⟩ : ∃ X, X = (pc Q).toArray := ⟨_, rfl⟩
  have HI := Lib.hid (GQ.begin X hX h he)
  have HNB := Lib.hid (show ¬ g.Y w.heap.size from fun hx => by
    have a := h.lt
    have b := h.k.ltb
    have c := h.k.m.lt
    rcases hx with e | e | e <;> omega)
  have MP := Lib.hid (fun W (h : GQ B base g Q w W) => gput_any B base g Q hQ (by omega) W h.m h.e)
  have HEN := Lib.hid (fun W W' (h : GQ B base g Q w W) (c : Ch g.Y W W') => h.e.on (c.below (Below.refl B W) h.e.k fun k hk hy => by
    have a := h.m.hg
    have b := h.m.hb
    have c := h.m.hm
    rcases hy with e | e | e <;> omega))
  have HCB := Lib.hid (fun W W' (h : GQ B base g Q w W) (c : Ch g.Y W W') => (Ch.bel (X := g.Y) h.bl).trans c fun _ _ hx => hx)
  have ME := Lib.hid (fun W (h : GW base (g.puts Q) W) (he : EN B W) => gending_any B base (g.puts Q) (by
    show cntT (kyB Q :: g.T) (kyB Q) ≤ 1000000
    have := cntT_le (kyB Q :: g.T) (kyB Q)
    rw [List.length_cons] at this
    omega) W h he)
  obtain ⟨n, hn⟩ : ∃ n, cntT (kyB Q :: g.T) (kyB Q) = n := ⟨_, rfl⟩
  have HV := Lib.hid (show g.comes Q = { g.puts Q with r := endR Q n, y := endY Q n } by unfold Gm.comes Gm.puts; rw [hn])
  rw [show (g.puts Q).P = Q from rfl, show (g.puts Q).n = n from hn, show (g.puts Q).gb = g.gb from rfl] at ME
  obtain ⟨r, hr⟩ : ∃ r, endR Q n = r := ⟨_, rfl⟩
  obtain ⟨y, hy⟩ : ∃ r, endY Q n = r := ⟨_, rfl⟩
  rw [hr, hy] at HV ME
  rw [← hX] at MP
  rw [← hX]
  have HX := Lib.hid hX
  clear hX h he hQ hT hn hr hy
  go_enter Tryz.func40, Tryz.ntmps40
  go_upto_region 1 with (fail)
  generalize w.alloc (.cells X 29) = W0 at *
  have xz := HI.out.m.lt
  refine wp_region_noPanic ?_
  refine wp_region_start (n := 5) (l := #[ff, ff, ff, ff, ff]) (S := (fun W => PB W w.heap.size Q)) (by kernel_rfl) rfl (by kernel_rfl) (by exact (HI.out.go (Below.refl _ _).drew).p) (fun hHeld => ?_)
  replace HI := Lib.hid (HI.out.go (Below.refl W0.heap.size W0).drew)
  generalize W0.drew = V0 at *
  refine tq (i := 0) (d := some 4) rfl rfl ?_
  try simp only [aP, sA, sZ, sS]
  refine tq (i := 1) (d := some 5) rfl rfl ?_
  try simp only [aP, sA, sZ, sS]
  refine tq (i := 2) (d := some 6) rfl rfl ?_
  try simp only [aP, sA, sZ, sS]
  refine tg (i := 3) (d := some 7) (v := (.agg X)) rfl rfl ?_ ?_
  · exact yields_posC (by rfl) _ (by rfl) w.heap.size Q X HX.out (by rfl) (fun W h => h)
  try simp only [aP, sA, sZ, sS]
  refine og (i := 4) rfl (by kernel_rfl) (fun K hK => ?_)
  go_simp
  refine (MP.out _ HI.out).mono ?_
  rintro e V ⟨rfl, hm, hc⟩
  have HM := Lib.hid hm
  have HE := Lib.hid (HEN.out _ _ HI.out hc)
  have HC := Lib.hid (HCB.out _ _ HI.out hc)
  have HP := Lib.hid (hc.pb HI.out.p HNB.out)
  clear hm hc MP HI HEN HCB
  dsimp only
  refine hK.out _ _ (by exact HP.out) (fun hHeld => ?_)
  clear hK K
  try simp only [aP, sA, sZ, sS]
  refine wpAnyH_done (by kernel_rfl) ?_ _
  refine NoPanic.normal ?_
  clear hHeld HP
  go_wp2_with fail
  refine (ME.out _ HM.out HE.out).mono ?_
  rintro e w1 ⟨rfl, hb⟩
  obtain ⟨_, _, _, _, x1, x2, _, y0⟩ := (HM.out.go hb).cell
  have x1 : w1.cell? ⟨g.gb, 136, none⟩ = some (.int .i64 g.r) := x1
  have x2 : w1.cell? ⟨g.gb, 137, none⟩ = some (.int .i64 g.y) := x2
  have y1 : w1.frozen? ⟨g.gb, 136, none⟩ = false := y0 136
  have y2 : w1.frozen? ⟨g.gb, 137, none⟩ = false := y0 137
  have y3 : g.gb < w1.heap.size := (HM.out.go hb).lt
  clear y0
  have HF := Lib.hid (Gdid.ry HM.out HC.out hb rfl r y)
  clear hb ME HM HC HE
  dsimp only
  refine list_go (by assumption) ?_
  go_wp2
  go_end0
  exact ⟨rfl, by rw [HV.out]; exact HF.out.1, HF.out.2⟩
set_option maxHeartbeats 2000000 in
set_option maxRecDepth 100000 in
theorem gnow_any (base : Nat) (g : Gm) (w : World) (h : GW base g w) :
    Calls Tryz.prog 13 #[.pointer (some ⟨g.gb, 0, none⟩)] w fun e w' => e = .returned (.agg (pc g.P).toArray) ∧ Below w.heap.size w w' := by
  have HI := Lib.hid (show PB (w.alloc (.cells Tryz.zeroCells29 29)) w.heap.size (fun _ => 0) ∧ GW base g (w.alloc (.cells Tryz.zeroCells29 29)) ∧ Below w.heap.size w (w.alloc (.cells Tryz.zeroCells29 29)) from ⟨by rw [zeroPosY]; exact PB.new rfl, h.go (below_new _), below_new _⟩)
  have MN := Lib.hid (fun W (h : GW base g W) => gnone_any base g W h)
  obtain ⟨X, hX⟩ : ∃ X, X = (pc g.P).toArray := ⟨_, rfl⟩
  rw [← hX]
  have HX := Lib.hid hX
  clear h hX
  go_enter Tryz.func13, Tryz.ntmps13
  go_upto_region 1 with (fail)
  generalize w.alloc (.cells Tryz.zeroCells29 29) = W0 at *
  go_wp2_with fail
  refine (MN.out _ HI.out.2.1).mono ?_
  rintro e w1 ⟨rfl, rfl⟩
  dsimp only
  refine list_go (by assumption) ?_
  have xg := HI.out.2.1.lt
  go_upto_region 3 with (fail)
  refine wp_region_lit ?_
  iterate 4 (refine wpList_plain rfl (fun K hK => ?_); go_simp; refine hK _ _ ?_; clear hK K)
  refine wpList_pos (by rfl) _ (by rfl) g.gb g.P X HX.out (by rfl) HI.out.2.1.pb ?_
  refine wpList_store_mid rfl 29 _ _ rfl w.heap.size 0 X rfl rfl (by rw [HX.out, pc_size]; exact HI.out.1.there) (by rw [infoPos, HX.out, pc_size]) (by rw [HX.out]; exact pc_one _) ?_
  rw [show X.toList = pc g.P by rw [HX.out]]
  have HR := Lib.hid ((HI.out.1.store (Q := g.P)).range)
  have HB := Lib.hid (below_store (b := w.heap.size) g.P HI.out.2.2 (Nat.le_refl _) HI.out.2.2.size)
  clear HI MN
  generalize w1.setCells w.heap.size 0 (pc g.P) = W8 at *
  show Exit.then _ _ Exit.normal _ _
  refine ret_go (by assumption) ?_
  repeat (first | refine then_ret ?_ | refine block_ret ?_)
  refine bodyPost_ret (v := .agg X) ?_ rfl ⟨rfl, HB.out⟩
  rw [HX.out]
  exact results_cell_mid (p := 2) (ty := 29) rfl _ W8 w.heap.size _ _ rfl HR.out Tryz.underlying29 rfl (by rw [infoPos, pc_len])
theorem infoMv14 : ∃ ie z, Tryz.prog.info? 46 = some ie ∧ ie.zero = some z ∧ ie.size = 3 ∧ ie.bytes = 24 ∧ z.cells.size = 3 := by
  obtain ⟨i1, hi1, hk⟩ : ∃ i, Tryz.prog.info? 46 = some i ∧ (i.zero, i.size, i.bytes) = (some (.agg #[.int .i64 0, .int .i64 0, .int .i64 0]), 3, 24) := by
    have h : (Tryz.prog.info? 46).map (fun i => (i.zero, i.size, i.bytes)) = some (some (.agg #[.int .i64 0, .int .i64 0, .int .i64 0]), 3, 24) := by kernel_rfl
    exact Option.map_eq_some_iff.1 h
  simp only [Prod.mk.injEq] at hk
  exact ⟨i1, _, hi1, hk.1, hk.2.1, hk.2.2, rfl⟩
theorem mvals_len (L : List (Int × Int × Int)) : (mvals L).length = L.length * 3 := by
  induction L with
  | nil => rfl
  | cons m L ih =>
    show ([Value.int .i64 m.1, .int .i64 m.2.1, .int .i64 m.2.2] ++ mvals L).length = _
    rw [List.length_append, ih]
    simp only [List.length_cons, List.length_nil]
    omega
theorem own3_form {w : World} {base n : Nat} {v : Value} {xs : List Value} (h : w.ownsRow base 46 3 v n xs) : (v = .slice none 0 0 ∧ n = 0) ∨ ∃ q c, v = .slice (some ⟨q, 0, none⟩) n c ∧ ∀ j u, xs[j]? = some u → w.cell? ((⟨q, 0, none⟩ : Addr).add j) = some u := by
  rcases h.2 with ⟨hv, hn⟩ | ⟨g, cap, _, hv, _⟩
  · exact .inl ⟨hv, by omega⟩
  · exact .inr ⟨g, cap, hv, fun j u hj => by subst hv; exact h.cells (g := g) rfl j u hj⟩
set_option maxHeartbeats 2000000 in
set_option maxRecDepth 100000 in
theorem gclone_any (base : Nat) (mv : Value) (L : List (Int × Int × Int)) (hl : L.length ≤ 100000) (w : World) (h : w.ownsRow base 46 3 mv L.length (mvals L)) :
    Calls Tryz.prog 46 #[mv] w fun e w' => ∃ v, e = .returned v ∧ Below w.heap.size w w' ∧ w'.ownsRow w.heap.size 46 3 v L.length (mvals L) := by
  obtain ⟨ie, z, hie, hz, hz1, hz2, hz3⟩ := infoMv14
  rcases own3_form h with ⟨rfl, hn⟩ | ⟨q, c, rfl, hc⟩
  · have he := run_eql_slice_nil (P := Tryz.prog) w 42 46 none 0 0 Tryz.underlying42
    have h0 : L = [] := List.eq_nil_of_length_eq_zero hn
    subst h0
    go_enter Tryz.func46, Tryz.ntmps46
    go_wp2
    go_ret
    exact ⟨_, rfl, Below.refl _ _, World.ownsRow_nil _ _ _ _⟩
  · have he := run_eql_slice_nil (P := Tryz.prog) w 42 46 (some ⟨q, 0, none⟩) L.length c Tryz.underlying42
    have hown := World.ownsRow_made (e := 46) (size := 3) (base := w.heap.size) w #[] 0 (Nat.le_refl _) (by unfold maxLen; omega) rfl
    have hb0 : Below w.heap.size w (w.alloc (.cells #[] 46)) := (Below.refl _ _).alloc (Nat.le_refl _) _
    have hq : q < w.heap.size := (h.lt q rfl).2
    have HC := Lib.hid (fun j u hj => show (w.alloc (.cells #[] 46)).cell? ((⟨q, 0, none⟩ : Addr).add j) = some u from (hb0.cell (p := (⟨q, 0, none⟩ : Addr).add j) (by rw [Go.WideShapes.add_plain]; exact hq)).trans (hc j u hj))
    have HO := Lib.hid hown
    have HB0 := Lib.hid hb0
    have hlb : (0 + L.length) * 24 ≤ 140737488355328 := by omega
    have hsz : w.heap.size ≤ (w.alloc (.cells #[] 46)).heap.size := hb0.size
    clear hown hb0 hc h
    go_enter Tryz.func46, Tryz.ntmps46
    go_wp2_with (at_builtin; refine wpList_append_own _ rfl _ _ 42 rfl w.heap.size 46 ie z 3 24 Tryz.underlying42 hie hz hz1 hz2 hz3 (by omega) _ _ _ rfl HO.out ⟨q, 0, none⟩ L.length c (mvals L) rfl (mvals_len L) HC.out (mvals_one L) (by unfold maxLen; omega) hlb hsz ?_)
    intro v2 w2 hown2 hg2 _
    have HF := Lib.hid hown2
    have HG := Lib.hid (HB0.out.grown hg2 hsz (fun k e => by simp [Value.ownBlock] at e; omega))
    clear hown2 hg2
    go_wp2
    go_ret
    exact ⟨_, rfl, HG.out, by simpa using HF.out⟩
set_option maxHeartbeats 2000000 in
set_option maxRecDepth 100000 in
theorem gmoves_any (base : Nat) (g : Gm) (hl : g.L.length ≤ 100000) (w : World) (h : GW base g w) :
    Calls Tryz.prog 14 #[.pointer (some ⟨g.gb, 0, none⟩)] w fun e w' => ∃ v, e = .returned v ∧ Below w.heap.size w w' ∧ w'.ownsRow w.heap.size 46 3 v g.L.length (mvals g.L) := by
  have MN := Lib.hid (gnone_any base g w h)
  obtain ⟨_, _, _, x0, _, _, _, _⟩ := h.cell
  have xz := h.lt
  go_enter Tryz.func14, Tryz.ntmps14
  go_wp2_with fail
  refine MN.out.mono ?_
  rintro e w1 ⟨rfl, rfl⟩
  dsimp only
  refine list_go (by assumption) ?_
  have MC := Lib.hid (gclone_any base g.mv g.L hl w1 h.own)
  generalize g.mv = mv at *
  clear h
  go_wp2_with fail
  refine MC.out.mono ?_
  rintro e w2 ⟨v, rfl, hb, ho⟩
  have HF := Lib.hid ho
  have HB := Lib.hid hb
  clear ho hb
  dsimp only
  refine list_go (by assumption) ?_
  go_wp2
  go_ret
  exact ⟨_, rfl, HB.out, HF.out⟩
end Go.Proofs.YtkncfeijlmomaaaGreatDoor
