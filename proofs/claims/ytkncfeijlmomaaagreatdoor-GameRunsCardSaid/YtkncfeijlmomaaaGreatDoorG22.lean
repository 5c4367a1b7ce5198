/-
  Merged: Ya, Yc.
-/
import Derived.Test.YtkncfeijlmomaaaGreatDoorG21
import Derived.Test.YtkncfeijlmomaaaGreatDoorG8
import Derived.Test.YtkncfeijlmomaaaGreatDoorG16
import Derived.Shelf.Strconv.AppendIntPublic10
import Derived.Laws.IdiomStrings
import Derived.Laws.MakeOwn
import Derived.OwnWalk
import Derived.Lib.Slices
import Derived.Test.YtkncfeijlmomaaaGreatDoorG13

namespace Go.Proofs.YtkncfeijlmomaaaGreatDoor
open Go.RowKit Go.Sort
set_option linter.unusedSimpArgs false
set_option linter.unusedVariables false
set_option maxRecDepth 20000

/-- a move takes elsewhere than where it goes -/
def tovB (P : Nat → Int) (f t k : Int) : Bool := tkP P f t k != -1 && tkP P f t k != t
theorem ovr_tks (P : Nat → Int) (hr : rightB P = true) (s n : Nat) (hs : s < 64) (hn : n < 64) (ho : ownB P s = true) (hg : goB P s n = true) (hov : ovrB P s n = true) : ∃ a : Nat, tksN P s n = (a : Int) ∧ a ≠ n := by
  obtain ⟨p1, p2⟩ := own_parts P s ho
  have hat : atN P s n = 8 * (s / 8) + n % 8 := by unfold atN; rw [if_pos hov]
  have fin : ∀ a : Nat, atN P s n = a → P (2 * a) = 1 → a ≠ n → ∃ a : Nat, tksN P s n = (a : Int) ∧ a ≠ n := fun a h1 h2 h3 =>
    ⟨a, by unfold tksN; rw [h1, if_neg (by unfold emB pe; rw [h2]; simp)], h3⟩
  unfold ovrB pwnB smF at hov
  simp only [Bool.and_eq_true, beq_iff_eq, Bool.not_eq_true', beq_eq_false_iff_ne] at hov
  obtain ⟨⟨⟨hk, hf⟩, h130⟩, _⟩ := hov
  have hover := (right_parts9 P hr).2.2.2.2.1
  unfold overB at hover
  rw [← h130] at hover
  have hnn : ((n : Int) == -1) = false := by first | (simp; done) | (simp; omega)
  rw [hnn, Bool.false_or] at hover
  simp only [Bool.and_eq_true, Int.toNat_natCast] at hover
  have h2 := hover.2
  rcases goB_pawn_how P s n hs hn hk p2 p1 hg with h | ⟨h, _, _, _⟩
  · unfold onN at h
    unfold overC at h2
    by_cases e : P 128 = 1
    · rw [e] at h2 h
      simp only [beq_self_eq_true, if_true, Bool.and_eq_true, beq_iff_eq] at h2 h
      exact fin (n + 8) (by rw [hat]; omega) ((pe_iff _ _ _ _).1 h2.2).1 (by omega)
    · have e2 : (P 128 == 1) = false := by simpa using e
      rw [e2] at h2
      rw [if_neg e] at h
      simp only [Bool.false_eq_true, if_false, Bool.and_eq_true, beq_iff_eq] at h2
      exact fin (n - 8) (by rw [hat]; omega) ((pe_iff _ _ _ _).1 h2.2).1 (by omega)
  · exfalso
    rcases onN_or P with e | e <;> rw [e] at h <;> omega
theorem tov_ovr (P : Nat → Int) (hp : posB P = true) (m : Int × Int × Int) (hm : m ∈ legM P) : tovB P m.1 m.2.1 m.2.2 = ovrB P m.1.toNat m.2.1.toNat := by
  have hr := (pos_parts P hp).1
  obtain ⟨s, n, hv⟩ := allM_mem P m (leg_all P m hm)
  have hok := (leg_mem P m s n hv).1 hm
  have hfl : fltN (handP P) s n m.2.2 = 0 := by
    unfold okM badQ at hok
    simp only [Bool.and_eq_true, Bool.not_eq_true', Bool.or_eq_false_iff, Bool.not_eq_false', beq_iff_eq] at hok
    exact hok.2.1
  unfold tovB tkP
  rw [hv.f, hv.t, if_pos hfl, right_hand P hr, Int.toNat_natCast, Int.toNat_natCast]
  cases e : ovrB P s n
  · unfold tksN atN
    rw [e]
    simp only [Bool.false_eq_true, if_false]
    split
    · rfl
    · simp
  · obtain ⟨a, ha, hne⟩ := ovr_tks P hr s n hv.hs hv.hn hv.o hv.g e
    rw [ha]
    have h1 : ((a : Int) != -1) = true := by simp only [bne_iff_ne, ne_eq]; omega
    have h2 : ((a : Int) != (n : Int)) = true := by simp only [bne_iff_ne, ne_eq]; omega
    rw [h1, h2]; rfl
theorem any_at {l : List (Int × Int × Int)} {q : Int → Int → Int → Bool} {i : Nat} (hi : i < l.length) (h : q (mF l i) (mT l i) (mK l i) = true) : l.any (fun m => q m.1 m.2.1 m.2.2) = true := by
  refine List.any_eq_true.2 ⟨l[i], List.getElem_mem hi, ?_⟩
  unfold mF mT mK at h
  rw [List.getD_eq_getElem?_getD, List.getElem?_eq_getElem hi] at h
  exact h
theorem any_none {l : List (Int × Int × Int)} {q : Int → Int → Int → Bool} (h : ∀ i, i < l.length → q (mF l i) (mT l i) (mK l i) = false) : l.any (fun m => q m.1 m.2.1 m.2.2) = false := by
  rw [List.any_eq_false]
  intro m hm
  obtain ⟨i, hi, rfl⟩ := List.mem_iff_getElem.1 hm
  have := h i hi
  unfold mF mT mK at this
  rw [List.getD_eq_getElem?_getD, List.getElem?_eq_getElem hi] at this
  simpa using this
theorem any_congr {α : Type} {p q : α → Bool} : ∀ l : List α, (∀ x ∈ l, p x = q x) → l.any p = l.any q
  | [], _ => rfl
  | a :: l, h => by rw [List.any_cons, List.any_cons, h a (List.mem_cons_self ..), any_congr l fun x hx => h x (List.mem_cons_of_mem _ hx)]
theorem tkO_is (P : Nat → Int) : tkO P = if P 130 = -1 then -1 else if (lmM P).any (fun m => tovB P m.1 m.2.1 m.2.2) then P 130 else -1 := by
  unfold tkO
  have : (lmM P).any (fun m => ovrB P m.1.toNat m.2.1.toNat) = (lmM P).any (fun m => tovB P m.1 m.2.1 m.2.2) := by
    unfold lmM
    cases hp : posB P
    · rfl
    · exact any_congr _ fun m hm => (tov_ovr P hp m hm).symm
  rw [this]
set_option maxHeartbeats 4000000 in
set_option maxRecDepth 100000 in
theorem tov_any12 (P : Nat → Int) (f t k : Int) (w : World) :
    Calls Tryz.prog 155 #[.agg (pc P).toArray, .agg #[.int .i64 f, .int .i64 t, .int .i64 k]] w fun e w' => e = .returned (.bool (tovB P f t k)) ∧ Below w.heap.size w w' := by
  obtain ⟨X, hX⟩ : ∃ X, X = (pc P).toArray := ⟨_, rfl⟩
  rw [← hX]
  have HI := Lib.hid (MC.begin w P f t k X hX)
  have M1 := Lib.hid (fun W => takesP_any P f t k W)
  rw [← hX] at M1
  have HR := Lib.hid (show tovB P f t k = (tkP P f t k != -1 && tkP P f t k != t) from rfl)
  generalize tovB P f t k = R at *
  generalize tkP P f t k = T at *
  have HX := Lib.hid hX
  clear hX
  go_enter Tryz.func155, Tryz.ntmps155
  go_upto_region 1 with (fail)
  refine forget_B (fun W => MC w W P f t k) HI.out ?_
  clear HI
  intro W hi
  have HI := Lib.hid hi
  clear hi
  obtain ⟨q0, q1, q2, qf, qz⟩ := row3 HI.out.m
  go_wp2_with (first | refine wpList_pos (by rfl) _ (by rfl) w.heap.size P X HX.out (by rfl) HI.out.p ?_ | fail)
  refine (M1.out _).mono ?_
  rintro e w1 ⟨rfl, hb⟩
  replace HI := Lib.hid (HI.out.go hb)
  clear hb M1 q0 q1 q2 qf qz
  obtain ⟨q0, q1, q2, qf, qz⟩ := row3 HI.out.m
  dsimp only
  refine list_go (by assumption) ?_
  by_cases h1 : T = -1
  · have HT := Lib.hid h1
    have e1 : (T != -1) = false := by simp [h1]
    clear h1
    go_wp2
    go_ret
    exact ⟨q_b (by rw [HR.out, HT.out]; rfl), HI.out.b⟩
  · have e1 : (T != -1) = true := by simpa using h1
    have HT := Lib.hid e1
    clear h1
    go_wp2
    go_ret
    exact ⟨q_b (by rw [HR.out, HT.out]; rfl), HI.out.b⟩
/-- what stands in Over -/
structure OV (B : Nat) (w W : World) (P : Nat → Int) : Prop where
  p : PB W w.heap.size P
  b : Below w.heap.size w W
theorem OV.go {B : Nat} {w W W' : World} {P : Nat → Int} (h : OV B w W P) (g : Below W.heap.size W W') : OV B w W' P := ⟨h.p.go g, h.b.trans (g.mono h.b.size)⟩
theorem OV.begin (B : Nat) (w : World) (P : Nat → Int) (X : Array Value) (hX : X = (pc P).toArray) : OV B w (w.alloc (.cells X 29)) P :=
  ⟨by rw [hX]; exact PB.new rfl, below_new _⟩
set_option maxHeartbeats 4000000 in
set_option maxRecDepth 100000 in
theorem over_any (P : Nat → Int) (w : World) (B : Nat) (hgb : GB B w) (hgs : GS B w) (hgm : GM B w) (hgp : GP B w) (hB : B ≤ w.heap.size) :
    Calls Tryz.prog 128 #[.agg (pc P).toArray] w fun e w' => e = .returned (.int .i64 (tkO P)) ∧ Below w.heap.size w w' := by
  obtain ⟨X, hX⟩ : ∃ X, X = (pc P).toArray := ⟨_, rfl⟩
  have HI := Lib.hid (OV.begin B w P X hX)
  have HM := Lib.hid (fun W (h : Below w.heap.size w W) => lMoves_any P W B (hgb.below (h.mono hB)) (hgs.below (h.mono hB)) (hgm.below (h.mono hB)) (hgp.below (h.mono hB)) (Nat.le_trans hB h.size))
  rw [← hX] at HM ⊢
  have hR := tkO_is P
  obtain ⟨L, hL⟩ : ∃ L, lmM P = L := ⟨_, rfl⟩
  rw [hL] at HM hR
  obtain ⟨T, hT⟩ : ∃ T, tkO P = T := ⟨_, rfl⟩
  rw [hT] at hR ⊢
  have HYES := Lib.hid (fun i (hi : i < L.length) => any_at (q := fun f t k => tovB P f t k) (l := L) hi)
  have HNO := Lib.hid (any_none (q := fun f t k => tovB P f t k) (l := L))
  have HOWN := Lib.hid (fun (W : World) base v (h : W.ownsRow base 46 3 v L.length (mvals L)) => reads3_own h)
  have MT := Lib.hid (fun f t k W => tov_any12 P f t k W)
  rw [← hX] at MT
  obtain ⟨ov, hov⟩ : ∃ x, P 130 = x := ⟨_, rfl⟩
  have HC := Lib.hid (fun W (h : OV B w W P) => by have := h.p.cell 130 (by omega); rw [hov] at this; exact this)
  rw [hov] at hR
  have HR := Lib.hid hR
  have HX := Lib.hid hX
  obtain ⟨n, hn⟩ : ∃ n, L.length = n := ⟨_, rfl⟩
  have n0 : n ≤ 17920 := by
    rw [← hn, ← hL]
    unfold lmM
    split
    · exact legM_len P
    · exact Nat.zero_le _
  rw [hn] at HM HYES HNO HOWN
  generalize mF L = F at *
  generalize mT L = G at *
  generalize mK L = K at *
  clear hX hL hT hR hov hgb hgs hgm hgp hn
  go_enter Tryz.func128, Tryz.ntmps128
  go_upto_region 1 with (fail)
  refine forget_B (fun W => OV B w W P) HI.out ?_
  clear HI
  intro W hi
  have HI := Lib.hid hi
  clear hi
  have c0 := HC.out _ HI.out
  by_cases h1 : ov = -1
  · have HV := Lib.hid h1
    have e1 : (ov == -1) = true := by simp [h1]
    clear h1
    go_wp2
    go_ret
    exact ⟨q_i (by rw [HR.out, if_pos HV.out]), HI.out.b⟩
  · have HV := Lib.hid h1
    have e1 : (ov == -1) = false := by simpa using h1
    clear h1
    go_wp2_with (first | refine wpList_pos (by rfl) _ (by rfl) w.heap.size P X HX.out (by rfl) HI.out.p ?_ | fail)
    refine (HM.out _ HI.out.b).mono ?_
    rintro e w1 ⟨v, rfl, hb, hown⟩
    obtain ⟨rp, rc, rfl, hr3⟩ := HOWN.out _ _ _ hown
    replace HI := Lib.hid (HI.out.go hb)
    have H3 := Lib.hid hr3
    clear hb hown hr3 HM HOWN c0 e1
    dsimp only
    refine list_go (by assumption) ?_
    go_wp2
    go_loopw [11] (fun x wr => ∃ i : Nat, i ≤ n ∧ x = .int .i64 (i : Int) ∧ (∀ j, j < i → tovB P (F j) (G j) (K j) = false) ∧ OV B w wr P ∧ Reads3 wr.heap.size wr rp n F G K) (fun x _ => n - (intOf x).toNat)
    case atStart => exact ⟨0, Nat.zero_le _, rfl, fun j hj => absurd hj (Nat.not_lt_zero _), HI.out, H3.out⟩
    case round =>
      clear HI H3
      obtain ⟨i, hi, rfl, hz, hv, hr⟩ := hrel
      have HI := Lib.hid hv
      have HZ := Lib.hid hz
      have H3 := Lib.hid hr
      clear hv hz hr
      by_cases hlt : i < n
      · have hrd := H3.out
        obtain ⟨pb, po, rfl⟩ := hrd.addr hlt
        obtain ⟨e0, e1, e2⟩ := hrd.cells hlt
        have HY := Lib.hid (HYES.out i hlt)
        have HZ2 := Lib.hid (fun (e : tovB P (F i) (G i) (K i) = false) j (hj : j < i + 1) => show tovB P (F j) (G j) (K j) = false from if h : j < i then HZ.out j h else (show j = i by omega) ▸ e)
        have MI := Lib.hid (fun W => MT.out (F i) (G i) (K i) W)
        obtain ⟨R, hRR⟩ : ∃ R, tovB P (F i) (G i) (K i) = R := ⟨_, rfl⟩
        rw [hRR] at HY HZ2 MI
        generalize F i = f at *
        generalize G i = t at *
        generalize K i = k at *
        have i0 : (0 : Int) ≤ (i : Int) := by omega
        clear hrd hRR
        go_upto_region 6 with (fail)
        clear e0 e1 e2
        refine forget_B (fun W => (OV B w W P ∧ Reads3 W.heap.size W (some ⟨pb, po, none⟩) n F G K) ∧ W.heap[wr.heap.size]? = some (.cells #[.int .i64 f, .int .i64 t, .int .i64 k] 46 (0, 0))) ⟨⟨HI.out.go (below_new _), (H3.out.below (below_new _)).mono (below_new _).size⟩, sl_at rfl⟩ ?_
        clear HI H3
        intro W1 hs1
        have HI := Lib.hid hs1
        clear hs1
        generalize wr.heap.size = mb at *
        obtain ⟨m0, m1, m2, mf, mz⟩ := row3 HI.out.2
        go_wp2_with (first | refine wpList_pos (by rfl) _ (by rfl) w.heap.size P X HX.out (by rfl) HI.out.1.1.p ?_ | fail)
        refine (MI.out _).mono ?_
        rintro e w2 ⟨rfl, hb⟩
        replace HI := Lib.hid (And.intro (HI.out.1.1.go hb) ((HI.out.1.2.below hb).mono hb.size))
        clear hb m0 m1 m2 mf mz MI
        dsimp only
        refine list_go (by assumption) ?_
        cases R
        · go_wp2
          go_roundw
          case rel => exact ⟨i + 1, by omega, by go_num, HZ2.out rfl, HI.out.1, HI.out.2⟩
          case measure => simp [intOf]; omega
        · have c0 := HC.out _ HI.out.1
          go_wp2
          go_ret
          exact ⟨q_i (by rw [HR.out, if_neg HV.out, HY.out (by trivial)]; rfl), HI.out.1.b⟩
      · obtain rfl : i = n := by omega
        go_wp2
        go_ret
        exact ⟨q_i (by rw [HR.out, if_neg HV.out, HNO.out HZ.out]; rfl), HI.out.b⟩
set_option maxHeartbeats 4000000 in
set_option maxRecDepth 100000 in
theorem overU_any (P : Nat → Int) (w : World) (B : Nat) (hgb : GB B w) (hgs : GS B w) (hgm : GM B w) (hgp : GP B w) (hB : B ≤ w.heap.size) :
    Calls Tryz.prog 98 #[.agg (pc P).toArray] w fun e w' => e = .returned (.int .i64 (ovU P)) ∧ Below w.heap.size w w' := by
  obtain ⟨X, hX⟩ : ∃ X, X = (pc P).toArray := ⟨_, rfl⟩
  have HI := Lib.hid (OV.begin B w P X hX)
  have HM := Lib.hid (fun W (h : Below w.heap.size w W) => over_any (uncN P) W B (hgb.below (h.mono hB)) (hgs.below (h.mono hB)) (hgm.below (h.mono hB)) (hgp.below (h.mono hB)) (Nat.le_trans hB h.size))
  rw [← hX]
  obtain ⟨Y, hY⟩ : ∃ Y, Y = (pc (uncN P)).toArray := ⟨_, rfl⟩
  rw [← hY] at HM
  have HY := Lib.hid hY
  have HT := Lib.hid (show tkO (uncN P) = ovU P from rfl)
  generalize tkO (uncN P) = T at *
  clear hX hY hgb hgs hgm hgp
  go_enter Tryz.func98, Tryz.ntmps98
  go_upto_region 1 with (fail)
  refine forget_B (fun W => OV B w W P) HI.out ?_
  clear HI
  intro W hi
  have HI := Lib.hid hi
  clear hi
  have c1 := HI.out.p.cell 131 (by omega)
  have f1 := HI.out.p.fr 131
  have c2 := (HI.out.p.set 131 0 (by omega)).cell 132 (by omega)
  have f2 := (HI.out.p.set 131 0 (by omega)).fr 132
  have HP := Lib.hid ((HI.out.p.set 131 0 (by omega)).set 132 1 (by omega))
  have HB := Lib.hid (show Below w.heap.size w ((W.setCell ⟨w.heap.size, 131, none⟩ (.int .i64 0)).setCell ⟨w.heap.size, 132, none⟩ (.int .i64 1)) from (HI.out.b.setCell (p := ⟨w.heap.size, 131, none⟩) (Nat.le_refl _) _).setCell (p := ⟨w.heap.size, 132, none⟩) (Nat.le_refl _) _)
  go_upto_region 2 with (fail)
  clear c1 f1 c2 f2
  refine forget_B (fun W => PB W w.heap.size (uncN P) ∧ Below w.heap.size w W) ⟨HP.out, HB.out⟩ ?_
  clear HI HP HB
  rintro W1 ⟨h1, h2⟩
  have HP := Lib.hid h1
  have HB := Lib.hid h2
  clear h1 h2
  go_wp2_with (first | refine wpList_pos (by rfl) _ (by rfl) w.heap.size (uncN P) Y HY.out (by rfl) HP.out ?_ | fail)
  refine (HM.out _ HB.out).mono ?_
  rintro e w2 ⟨rfl, hb⟩
  replace HB := Lib.hid (HB.out.trans (hb.mono HB.out.size))
  clear hb HM
  dsimp only
  refine list_go (by assumption) ?_
  go_wp2
  go_ret
  exact ⟨q_i HT.out, HB.out⟩
end Go.Proofs.YtkncfeijlmomaaaGreatDoor

namespace Go.Proofs.YtkncfeijlmomaaaGreatDoor
open Go.RowKit Go.Sort
set_option linter.unusedSimpArgs false
set_option linter.unusedVariables false
set_option maxRecDepth 20000

def ai_lays_ren : Go.Shelf.Ren := ⟨fun | 176 => 127 | 249 => 154 | 288 => 178 | 283 => 207 | 284 => 208 | 285 => 209 | 286 => 210 | 129 => 229 | 317 => 242 | 318 => 243 | 319 => 244 | 320 => 245 | 337 => 255 | 338 => 256 | n => n, fun | 37 => 125 | 2 => 2 | 3 => 3 | 53 => 188 | 4 => 4 | 9 => 9 | 171 => 214 | 0 => 0 | 173 => 217 | 212 => 243 | 51 => 235 | 5 => 5 | 20 => 20 | 213 => 244 | 46 => 192 | 232 => 256 | 233 => 257 | n => n, fun | 17 => 5 | 18 => 6 | 19 => 7 | n => n⟩
theorem ai_lays : Go.Proofs.LaysM.n176 Tryz.prog ai_lays_ren := {
  mixed := by kernel_rfl
  f129 := Tryz.func229.trans (congrArg some (by kernel_rfl))
  f176 := Tryz.func127.trans (congrArg some (by kernel_rfl))
  f249 := Tryz.func154.trans (congrArg some (by kernel_rfl))
  f283 := Tryz.func207.trans (congrArg some (by kernel_rfl))
  f284 := Tryz.func208.trans (congrArg some (by kernel_rfl))
  f285 := Tryz.func209.trans (congrArg some (by kernel_rfl))
  f286 := Tryz.func210.trans (congrArg some (by kernel_rfl))
  f288 := Tryz.func178.trans (congrArg some (by kernel_rfl))
  f317 := Tryz.func242.trans (congrArg some (by kernel_rfl))
  f318 := Tryz.func243.trans (congrArg some (by kernel_rfl))
  f319 := Tryz.func244.trans (congrArg some (by kernel_rfl))
  f320 := Tryz.func245.trans (congrArg some (by kernel_rfl))
  f337 := Tryz.func255.trans (congrArg some (by kernel_rfl))
  f338 := Tryz.func256.trans (congrArg some (by kernel_rfl))
  t0 := Tryz.underlying0
  a0 := Tryz.isAgg0
  z0 := Tryz.sizeOf0
  v0 := Tryz.zeroValue0
  t2 := Tryz.underlying2
  a2 := Tryz.isAgg2
  z2 := Tryz.sizeOf2
  v2 := Tryz.zeroValue2
  t3 := Tryz.underlying3
  a3 := Tryz.isAgg3
  z3 := Tryz.sizeOf3
  v3 := Tryz.zeroValue3
  t4 := Tryz.underlying4
  a4 := Tryz.isAgg4
  z4 := Tryz.sizeOf4
  v4 := Tryz.zeroValue4
  t5 := Tryz.underlying5
  a5 := Tryz.isAgg5
  z5 := Tryz.sizeOf5
  v5 := Tryz.zeroValue5
  t9 := Tryz.underlying9
  a9 := Tryz.isAgg9
  z9 := Tryz.sizeOf9
  v9 := Tryz.zeroValue9
  t20 := Tryz.underlying20
  a20 := Tryz.isAgg20
  z20 := Tryz.sizeOf20
  v20 := Tryz.zeroValue20
  t37 := Tryz.underlying125
  a37 := Tryz.isAgg125
  z37 := Tryz.sizeOf125
  v37 := Tryz.zeroValue125
  t46 := Tryz.underlying192
  a46 := Tryz.isAgg192
  z46 := Tryz.sizeOf192
  v46 := Tryz.zeroValue192
  t51 := Tryz.underlying235
  a51 := Tryz.isAgg235
  z51 := Tryz.sizeOf235
  v51 := Tryz.zeroValue235
  t53 := Tryz.underlying188
  a53 := Tryz.isAgg188
  z53 := Tryz.sizeOf188
  v53 := Tryz.zeroValue188
  t171 := Tryz.underlying214
  a171 := Tryz.isAgg214
  z171 := Tryz.sizeOf214
  v171 := Tryz.zeroValue214
  t173 := Tryz.underlying217
  a173 := Tryz.isAgg217
  z173 := Tryz.sizeOf217
  v173 := Tryz.zeroValue217
  t212 := Tryz.underlying243
  a212 := Tryz.isAgg243
  z212 := Tryz.sizeOf243
  v212 := Tryz.zeroValue243
  t213 := Tryz.underlying244
  a213 := Tryz.isAgg244
  z213 := Tryz.sizeOf244
  t232 := Tryz.underlying256
  a232 := Tryz.isAgg256
  z232 := Tryz.sizeOf256
  v232 := Tryz.zeroValue256
  t233 := Tryz.underlying257
  a233 := Tryz.isAgg257
  z233 := Tryz.sizeOf257
  v233 := Tryz.zeroValue257
  g17 := by kernel_rfl
  g18 := by kernel_rfl
  g19 := by kernel_rfl
  i0 := by kernel_rfl
  i2 := by kernel_rfl
  i3 := by kernel_rfl
  i4 := by kernel_rfl
  i5 := by kernel_rfl
  i9 := by kernel_rfl
  i20 := by kernel_rfl
  i37 := by kernel_rfl
  i46 := by kernel_rfl
  i51 := by kernel_rfl
  i53 := by kernel_rfl
  i171 := by kernel_rfl
  i173 := by kernel_rfl
  i212 := by kernel_rfl
  i232 := by kernel_rfl
  i233 := by kernel_rfl
  m17 := by kernel_rfl
  m18 := by kernel_rfl
  m19 := by kernel_rfl }
/-- the powers of ten lie there -/
def TP (B : Nat) (w : World) : Prop := Lib.TabBelow Tryz.prog B w "internal/strconv.uint64pow10" .u64 Lib.pow10Tab
theorem TP.on {B : Nat} {w w' : World} (h : TP B w) (g : Below B w w') : TP B w' := Lib.TabBelow.on h g
theorem owns_below_ {w w' : World} {base : Nat} {e : TypeId} {k : Nat} {v : Value} {n : Nat} {xs : List Value} (h : w.ownsRow base e k v n xs) (hb : Below w.heap.size w w') : w'.ownsRow base e k v n xs := by
  refine ⟨h.1, ?_⟩
  rcases h.2 with h2 | ⟨g, cap, cur, h1, h2, h3, h4⟩
  · exact .inl h2
  · exact .inr ⟨g, cap, cur, h1, h2, (hb.block g (Array.getElem?_eq_some_iff.1 h3).1).trans h3, h4⟩
theorem kept_at {w W : World} (h : Lib.OthersKept 5 none w W) {k : Nat} {X : Array Value} {t : TypeId} (hk : w.heap[k]? = some (.cells X t (0, 0))) (ht : t ≠ 5) : W.heap[k]? = some (.cells X t (0, 0)) :=
  h k _ hk (by simp) (fun c fz e => by cases e; exact ht rfl)
/-- what stands while numbers are put -/
structure NS (B : Nat) (w W : World) (sv : Value) (xs : List UInt8) (vb : Nat) (X : Array Value) : Prop where
  own : W.ownsRow B 5 1 sv xs.length (Lib.byteCells xs)
  row : W.heap[vb]? = some (.cells X 3 (0, 0))
  b : Below B w W
  k : Lib.OthersKept 5 none w W
theorem infoU8' : (Tryz.prog.info? 5).map (fun i => (i.zero, i.size, i.bytes)) = some (some (.int .u8 0), 1, 1) := by kernel_rfl
theorem own_tag {W : World} {B n : Nat} {e : TypeId} {sv : Value} {xs : List Value} (h : W.ownsRow B e 1 sv n xs) : ∀ g, sv.ownBlock = some g → ∃ c fz, W.heap[g]? = some (.cells c e fz) := by
  intro g hg
  rcases h.2 with ⟨rfl, _⟩ | ⟨g', cap, cur, rfl, _, hc, _⟩
  · cases hg
  · simp [Value.ownBlock] at hg
    subst hg
    exact ⟨_, _, hc⟩
set_option maxHeartbeats 4000000 in
set_option maxRecDepth 100000 in
theorem numbers_any (B vb m : Nat) (F : Nat → Int) (hF : ∀ i, i < m → -9223372036854775808 ≤ F i ∧ F i ≤ 9223372036854775807) (sv : Value) (xs : List UInt8) (w : World)
    (hown : w.ownsRow B 5 1 sv xs.length (Lib.byteCells xs)) (hrow : w.heap[vb]? = some (.cells (nums F 0 m).toArray 3 (0, 0))) (hB : B ≤ w.heap.size) (hlim : xs.length + 22 * m ≤ 1000000) (ht : TP B w) :
    Calls Tryz.prog 97 #[sv, .slice (some ⟨vb, 0, none⟩) m m] w fun e w' => ∃ v', e = .returned v' ∧ w'.ownsRow B 5 1 v' (xs ++ kyT ((List.range m).map F)).length (Lib.byteCells (xs ++ kyT ((List.range m).map F))) ∧ Below B w w' ∧ Lib.OthersKept 5 none w w' := by
  obtain ⟨i0, hi, hz0, hz1, hz2⟩ := info_parts infoU8'
  have HIN := Lib.hid (And.intro hi (And.intro hz0 (And.intro hz1 hz2)))
  clear hi hz0 hz1 hz2
  have AI := Lib.hid (fun i (hi : i < m) (W : World) sv (ys : List UInt8) (h : NS B w W sv ys vb (nums F 0 m).toArray) (hl : ys.length ≤ 1000000) =>
    show Calls Tryz.prog 127 #[sv, .int .i64 (F i), .int .i64 10] W fun e w' => ∃ v', e = .returned v' ∧ w'.ownsRow B 5 1 v' (ys.length + (Lib.itoa (F i)).length) (Lib.byteCells ys ++ Lib.byteCells (Lib.itoa (F i))) ∧ Below B W w' ∧ Lib.OthersKept 5 none W w' from
      Any.strconv_AppendInt_10 ai_lays B ys.length (F i) (hF i hi).1 (hF i hi).2 sv (Lib.byteCells ys) W h.own (Nat.le_trans hB h.b.size) (by omega) (ht.on h.b))
  have HI := Lib.hid (show NS B w w sv (xs ++ kyT ((List.range 0).map F)) vb (nums F 0 m).toArray from ⟨by simpa [kyT] using hown, hrow, Below.refl _ _, Lib.OthersKept.refl _ _ _⟩)
  have HLEN := Lib.hid (fun i (hi : i ≤ m) => show (xs ++ kyT ((List.range i).map F)).length ≤ 1000000 by
    have h1 := kyT_len ((List.range i).map F) fun n hn => by
      obtain ⟨j, hj, rfl⟩ := List.mem_map.1 hn
      exact hF j (by have := List.mem_range.1 hj; omega)
    rw [List.length_map, List.length_range] at h1
    rw [List.length_append]
    omega)
  have HNEXT := Lib.hid (fun i => show xs ++ kyT ((List.range (i + 1)).map F) = xs ++ kyT ((List.range i).map F) ++ Lib.itoa (F i) ++ [32] by
    rw [List.range_succ, List.map_append, kyT_append, List.map_cons, List.map_nil, kyT_one, List.append_assoc, List.append_assoc])
  have HIT := Lib.hid (fun i (hi : i < m) => Lib.itoa_length_le (F i) (hF i hi).1 (hF i hi).2)
  have HX := Lib.hid (fun i (hi : i < m) => nums_at F 0 m i hi)
  have HBB := Lib.hid hB
  have m0 : m ≤ 100000 := by omega
  clear hown hrow hF hlim ht hB
  generalize (nums F 0 m).toArray = X at *
  go_enter Tryz.func97, Tryz.ntmps97
  go_wp2
  go_loopw [0, 9] (fun tv x wr => ∃ i : Nat, i ≤ m ∧ x = .int .i64 (i : Int) ∧ NS B w wr tv (xs ++ kyT ((List.range i).map F)) vb X) (fun _ x _ => m - (intOf x).toNat)
  case atStart => exact ⟨0, Nat.zero_le _, rfl, HI.out⟩
  case round =>
    clear HI
    obtain ⟨i, hi, rfl, hn⟩ := hrel
    have HN := Lib.hid hn
    clear hn
    by_cases hlt : i < m
    · have c0 : wr.cell? ⟨vb, i, none⟩ = some (.int .i64 (F i)) := by
        rw [cell_of_row wr vb i _ _ (0, 0) HN.out.row]
        have := HX.out i hlt
        rwa [Nat.zero_add] at this
      have A1 := Lib.hid (fun W sv ys h hl => AI.out i hlt W sv ys h hl)
      have HL := Lib.hid (HLEN.out i hi)
      have HE := Lib.hid (HNEXT.out i)
      have HT := Lib.hid (HIT.out i hlt)
      obtain ⟨ys, hys⟩ : ∃ l, xs ++ kyT ((List.range i).map F) = l := ⟨_, rfl⟩
      rw [hys] at HN HL HE
      generalize F i = a at *
      have i0' : (0 : Int) ≤ (i : Int) := by omega
      clear hys
      go_wp2_with fail
      refine (A1.out _ _ ys HN.out HL.out).mono ?_
      rintro e w1 ⟨v1, rfl, hown1, hb1, hk1⟩
      have e1 : Lib.byteCells ys ++ Lib.byteCells (Lib.itoa a) = Lib.byteCells (ys ++ Lib.itoa a) := by simp [Lib.byteCells]
      have e2 : ys.length + (Lib.itoa a).length = (ys ++ Lib.itoa a).length := by simp
      rw [e1, e2] at hown1
      have H1 := Lib.hid (show NS B w w1 v1 (ys ++ Lib.itoa a) vb X from ⟨hown1, kept_at hk1 HN.out.row (by decide), HN.out.b.trans hb1, HN.out.k.trans hk1⟩)
      clear hown1 hb1 hk1 e1 e2 A1 c0 HN
      dsimp only
      refine list_go (by assumption) ?_
      obtain ⟨hi', hz0, hz1, hz2⟩ := HIN.out
      have hll : (ys ++ Lib.itoa a).length ≤ 1000100 := by have := HT.out; have := HL.out; rw [List.length_append]; omega
      go_wp2_with (at_builtin; refine wpList_append_own _ rfl _ _ 125 rfl B 5 i0 (.int .u8 0) 1 1 Tryz.underlying125 hi' hz0 hz1 hz2 rfl (by decide) _ _ _ rfl (H1.out.own.alloc _) ⟨w1.heap.size, 0, none⟩ 1 1 [Value.int .u8 32] rfl rfl (by intro j u' hj; match j, hj with | 0, hj => simp at hj; subst hj; simp [Addr.add]) (by intro u' hu'; simp at hu'; subst hu'; rfl) (by unfold maxLen; omega) (by omega) (by have := H1.out.b.size; have := HBB.out; simp; omega) ?_)
      intro v2 w2 hown2 hgrow _
      have e1 : Lib.byteCells (ys ++ Lib.itoa a) ++ [Value.int .u8 32] = Lib.byteCells (ys ++ Lib.itoa a ++ [32]) := by unfold Lib.byteCells; rw [List.map_append, List.map_append, List.map_append, List.map_cons, List.map_nil]; rfl
      have e2 : ys.length + (Lib.itoa a).length + 1 = (ys ++ Lib.itoa a ++ [32]).length := by rw [List.length_append, List.length_append]; rfl
      rw [e1, e2] at hown2
      have hlt1 : vb < w1.heap.size := (Array.getElem?_eq_some_iff.1 H1.out.row).1
      have hkk : Lib.OthersKept 5 none w w2 := (H1.out.k.alloc _).grown hgrow (own_tag (H1.out.own.alloc _))
      have H2 := Lib.hid (show NS B w w2 v2 (ys ++ Lib.itoa a ++ [32]) vb X from ⟨hown2, kept_at (((Lib.OthersKept.refl _ _ w1).alloc _).grown hgrow (own_tag (H1.out.own.alloc _))) H1.out.row (by decide),
        (H1.out.b.alloc (Nat.le_trans HBB.out H1.out.b.size) _).grown hgrow (by simp; exact Nat.le_succ_of_le (Nat.le_trans HBB.out H1.out.b.size)) (fun k hk => (H1.out.own.lt k hk).1), hkk⟩)
      rw [← HE.out] at H2
      clear hown2 hgrow e1 e2 hkk hlt1 hll hi' hz0 hz1 hz2 H1
      go_wp2
      go_roundw
      case rel => exact ⟨i + 1, by omega, by go_num, H2.out⟩
      case measure => simp [intOf]; omega
    · obtain rfl : i = m := by omega
      go_wp2
      go_ret
      exact ⟨_, rfl, HN.out.own, HN.out.b, HN.out.k⟩
/-- what stands while a position's text is put -/
structure KZ (w W : World) (P : Nat → Int) (sv : Value) (xs : List UInt8) : Prop where
  own : W.ownsRow w.heap.size 5 1 sv xs.length (Lib.byteCells xs)
  p : ∃ X, X = (pc P).toArray ∧ W.heap[w.heap.size]? = some (.cells X 29 (0, 0))
  b : Below w.heap.size w W
theorem KZ.pb {w W : World} {P : Nat → Int} {sv : Value} {xs : List UInt8} (h : KZ w W P sv xs) : PB W w.heap.size P := by
  obtain ⟨X, rfl, h2⟩ := h.p
  exact PB.of_block h2
theorem KZ.go {w W W' : World} {P : Nat → Int} {sv : Value} {xs : List UInt8} (h : KZ w W P sv xs) (g : Below W.heap.size W W') : KZ w W' P sv xs := by
  obtain ⟨X, h1, h2⟩ := h.p
  exact ⟨owns_below_ h.own g, ⟨X, h1, sl_go h2 g⟩, h.b.trans (g.mono h.b.size)⟩
theorem KZ.put {w W W' : World} {P : Nat → Int} {sv v : Value} {xs ys : List UInt8} (h : KZ w W P sv xs) (ho : W'.ownsRow w.heap.size 5 1 v ys.length (Lib.byteCells ys)) (hb : Below w.heap.size W W') (hk : Lib.OthersKept 5 none W W') : KZ w W' P v ys := by
  obtain ⟨X, h1, h2⟩ := h.p
  exact ⟨ho, ⟨X, h1, kept_at hk h2 (by decide)⟩, h.b.trans hb⟩
theorem KZ.str {w W : World} {P : Nat → Int} {sv : Value} {l : List UInt8} (h : KZ w W P sv l) (hl : 0 < l.length) : ∃ g cap, sv = .slice (some ⟨g, 0, none⟩) l.length cap ∧ (convert 125 9 (.slice (some ⟨g, 0, none⟩) l.length cap)).run Tryz.prog W = .ok (.string ⟨l.toArray⟩) W := by
  rcases h.own.2 with ⟨-, h0⟩ | ⟨g, cap, cur, h1, -, -, -, -, -, -⟩
  · omega
  · subst h1
    exact ⟨g, cap, rfl, run_convert_bytes_back (P := Tryz.prog) W 125 9 5 ⟨g, 0, none⟩ cap l Tryz.underlying125 Tryz.underlying5 Tryz.underlying9 (fun j hj => h.own.cells (g := g) rfl j _ (by simp [Lib.byteCells, hj]))⟩
theorem two_nums (F : Nat → Int) : (nums F 0 2).toArray = #[.int .i64 (F 0), .int .i64 (F 1)] := rfl
theorem kyT_two (P : Nat → Int) (j : Nat) : kyT ((List.range (2 * (j + 1))).map P) = kyT ((List.range (2 * j)).map P) ++ kyT ((List.range 2).map fun i => P (2 * j + i)) := by
  rw [← kyT_append, show 2 * (j + 1) = 2 * j + 2 by omega, List.range_add, List.map_append, List.map_map]
  rfl
theorem kyB_end (P : Nat → Int) : kyB P = kyT ((List.range (2 * 64)).map P) ++ kyT [P 128, P 129, ovU P] := by
  unfold kyB kyL
  rw [← kyT_append]
  congr 1
theorem inWf {P : Nat → Int} (h : ∀ i, i < 133 → -9223372036854775808 ≤ P i ∧ P i ≤ 9223372036854775807) : -9223372036854775808 ≤ ovU P ∧ ovU P ≤ 9223372036854775807 := by
  rcases ovU_or P with e | e
  · rw [e]; omega
  · rw [e]; exact h 130 (by omega)
set_option maxHeartbeats 8000000 in
set_option maxRecDepth 100000 in
theorem key_any (P : Nat → Int) (hP : ∀ i, i < 133 → -9223372036854775808 ≤ P i ∧ P i ≤ 9223372036854775807) (w : World) (B : Nat) (hgb : GB B w) (hgs : GS B w) (hgm : GM B w) (hgp : GP B w) (ht : TP w.heap.size w) (hB : B ≤ w.heap.size) :
    Calls Tryz.prog 57 #[.agg (pc P).toArray] w fun e w' => e = .returned (.string ⟨(kyB P).toArray⟩) ∧ Below w.heap.size w w' := by
  have MN := Lib.hid (fun (vb m : Nat) (F : Nat → Int) (hF : ∀ i, i < m → -9223372036854775808 ≤ F i ∧ F i ≤ 9223372036854775807) sv xs W (hW : KZ w W P sv xs) (hr : W.heap[vb]? = some (.cells (nums F 0 m).toArray 3 (0, 0))) (hl : xs.length + 22 * m ≤ 1000000) =>
    numbers_any w.heap.size vb m F hF sv xs W hW.own hr hW.b.size hl (ht.on hW.b))
  have MO := Lib.hid (fun W (h : Below w.heap.size w W) => overU_any P W B (hgb.below (h.mono hB)) (hgs.below (h.mono hB)) (hgm.below (h.mono hB)) (hgp.below (h.mono hB)) (Nat.le_trans hB h.size))
  have HLEN := Lib.hid (fun j (hj : j ≤ 64) => show (kyT ((List.range (2 * j)).map P)).length ≤ 2816 by
    have h1 := kyT_len ((List.range (2 * j)).map P) fun n hn => by
      obtain ⟨i, hi, rfl⟩ := List.mem_map.1 hn
      exact hP i (by have := List.mem_range.1 hi; omega)
    rw [List.length_map, List.length_range] at h1
    omega)
  have HP2 := Lib.hid (fun j (hj : j < 64) i (hi : i < 2) => hP (2 * j + i) (by omega))
  have HP3 := Lib.hid (show ∀ i, i < 3 → -9223372036854775808 ≤ (fun i => if i = 0 then P 128 else if i = 1 then P 129 else ovU P) i ∧ (fun i => if i = 0 then P 128 else if i = 1 then P 129 else ovU P) i ≤ 9223372036854775807 from fun i hi => by
    rcases (show i = 0 ∨ i = 1 ∨ i = 2 by omega) with rfl | rfl | rfl
    · exact hP 128 (by omega)
    · exact hP 129 (by omega)
    · exact inWf hP)
  have M3 := Lib.hid (fun vb sv xs W (h : KZ w W P sv xs) (hr : W.heap[vb]? = some (.cells #[.int .i64 (P 128), .int .i64 (P 129), .int .i64 (ovU P)] 3 (0, 0))) (hl : xs.length ≤ 2816) =>
    show Calls Tryz.prog 97 #[sv, .slice (some ⟨vb, 0, none⟩) 3 3] W fun e w' => ∃ v', e = .returned v' ∧ w'.ownsRow w.heap.size 5 1 v' (xs ++ kyT [P 128, P 129, ovU P]).length (Lib.byteCells (xs ++ kyT [P 128, P 129, ovU P])) ∧ Below w.heap.size W w' ∧ Lib.OthersKept 5 none W w' from
      MN.out vb 3 _ HP3.out sv xs W h hr (by omega))
  clear HP3
  obtain ⟨X, hX⟩ : ∃ X, X = (pc P).toArray := ⟨_, rfl⟩
  have HI := Lib.hid (show PB (w.alloc (.cells X 29)) w.heap.size P ∧ (w.alloc (.cells X 29)).heap[w.heap.size]? = some (.cells X 29 (0, 0)) ∧ Below w.heap.size w (w.alloc (.cells X 29)) from ⟨by rw [hX]; exact PB.new rfl, sl_at rfl, below_new _⟩)
  rw [← hX] at MO ⊢
  obtain ⟨Z, hZ⟩ : ∃ Z, Z = (nums P 0 128).toArray := ⟨_, rfl⟩
  have HIX := Lib.hid (show ∀ (j : Nat) (hj : j < 64) (W : World), (Instr.index 26 (.agg Z) (.int .i64 (j : Int))).run Tryz.prog W = .ok (.agg #[.int .i64 (P (2 * j)), .int .i64 (P (2 * j + 1))]) W from fun j hj W => by
    rw [hZ]; exact index_sqs P j hj W)
  have HEND := Lib.hid (kyB_end P)
  have HX := Lib.hid hX
  have HZ := Lib.hid hZ
  clear hX hZ hgb hgs hgm hgp ht hB hP
  go_enter Tryz.func57, Tryz.ntmps57
  go_upto_region 1 with (fail)
  refine forget_B (fun W => PB W w.heap.size P ∧ W.heap[w.heap.size]? = some (.cells X 29 (0, 0)) ∧ Below w.heap.size w W) HI.out ?_
  clear HI
  rintro W ⟨h1, h2, h3⟩
  have H1 := Lib.hid h1
  have H2 := Lib.hid h2
  have H3 := Lib.hid h3
  clear h1 h2 h3
  obtain ⟨w1, hmk, hown, hgr⟩ : ∃ w1, (Instr.makeSlice 125 (.int .i64 0) (.int .i64 264)).run Tryz.prog W = .ok (.slice (some ⟨W.heap.size, 0, none⟩) 0 264) w1 ∧ w1.ownsRow w.heap.size 5 1 (.slice (some ⟨W.heap.size, 0, none⟩) 0 264) 0 [] ∧ W.grownBy w1 none := by
    obtain ⟨i0, hi, hz0, hz1, hz2⟩ := info_parts infoU8'
    exact run_make_own (P := Tryz.prog) W w.heap.size 125 5 i0 (.int .u8 0) 1 Tryz.underlying125 hi hz0 hz1 .i64 .i64 264 (by rw [hz2]; omega) (by unfold maxLen; omega) H3.out.size
  have hb1 : Below W.heap.size W w1 := ⟨hgr.os, hgr.tape, hgr.output, hgr.size, fun k hk => hgr.block k hk (by simp)⟩
  have HZ1 := Lib.hid (show KZ w w1 P (.slice (some ⟨W.heap.size, 0, none⟩) 0 264) (kyT ((List.range (2 * 0)).map P)) from ⟨by simpa [kyT, Lib.byteCells] using hown, ⟨X, HX.out, sl_go H2.out hb1⟩, H3.out.trans (hb1.mono H3.out.size)⟩)
  clear hown hgr hb1
  go_upto_region 2 with (fail)
  clear hmk H1 H2 H3
  generalize W.heap.size = kb at *
  go_wp2_with (refine wpList_sqs (by rfl) _ (by rfl) w.heap.size P Z HZ.out (by rfl) HZ1.out.pb ?_)
  go_loopw [3, 9] (fun sv x wr => ∃ j : Nat, j ≤ 64 ∧ x = .int .i64 (j : Int) ∧ KZ w wr P sv (kyT ((List.range (2 * j)).map P))) (fun _ x _ => 64 - (intOf x).toNat)
  case atStart => exact ⟨0, Nat.zero_le _, rfl, HZ1.out⟩
  case round =>
    clear HZ1
    obtain ⟨j, hj, rfl, h1⟩ := hrel
    have H1 := Lib.hid h1
    clear h1
    by_cases hlt : j < 64
    · have hix := HIX.out j hlt
      have HNX := Lib.hid (kyT_two P j)
      have MM := Lib.hid (fun vb sv xs W h hr hl => MN.out vb 2 (fun i => P (2 * j + i)) (HP2.out j hlt) sv xs W h hr hl)
      have HLL := Lib.hid (HLEN.out j hj)
      obtain ⟨xs, hxs⟩ : ∃ l, kyT ((List.range (2 * j)).map P) = l := ⟨_, rfl⟩
      obtain ⟨ys, hys⟩ : ∃ l, kyT ((List.range 2).map fun i => P (2 * j + i)) = l := ⟨_, rfl⟩
      rw [hxs] at H1 HNX HLL
      rw [hys] at HNX MM
      have HF0 := Lib.hid (two_nums fun i => P (2 * j + i))
      generalize (nums (fun i => P (2 * j + i)) 0 2).toArray = NN at *
      have e0 : P (2 * j + 0) = P (2 * j) := rfl
      rw [e0] at HF0
      generalize P (2 * j) = k at *
      generalize P (2 * j + 1) = d at *
      have j0 : (0 : Int) ≤ (j : Int) := by omega
      clear hxs hys e0
      go_upto_region 5 with (fail)
      refine forget_B (fun W => KZ w W P u3 xs ∧ W.heap[wr.heap.size]? = some (.cells #[.int .i64 k, .int .i64 d] 25 (0, 0))) ⟨H1.out.go (below_new _), sl_at rfl⟩ ?_
      clear H1 hix
      rintro W3 ⟨h1, h2⟩
      obtain ⟨q1, q2, qf, qz⟩ := row2 h2
      have HA := Lib.hid (MM.out W3.heap.size u3 xs (W3.alloc (.cells #[.int .i64 k, .int .i64 d] 3)) (h1.go (below_new _)) (by rw [HF0.out]; exact sl_at rfl) (by have := HLL.out; omega))
      have H1 := Lib.hid (h1.go (below_new (.cells #[.int .i64 k, .int .i64 d] 3)))
      clear h1 h2
      go_wp2_with fail
      refine HA.out.mono ?_
      rintro e w4 ⟨v4, rfl, hown, hb, hk⟩
      have H4 := Lib.hid (H1.out.put hown hb hk)
      rw [← HNX.out] at H4
      clear hown hb hk H1 HA q1 q2 qf qz HF0
      dsimp only
      refine list_go (by assumption) ?_
      go_wp2
      go_roundw
      case rel => exact ⟨j + 1, by omega, by go_num, H4.out⟩
      case measure => simp [intOf]; omega
    · obtain rfl : j = 64 := by omega
      have HL3 := Lib.hid (HLEN.out 64 (Nat.le_refl _))
      have c1 := Lib.hid (fun W (h : PB W w.heap.size P) => h.cell 128 (by omega))
      have c2 := Lib.hid (fun W (h : PB W w.heap.size P) => h.cell 129 (by omega))
      have HPO := Lib.hid (show 0 < (kyB P).length by
        rw [HEND.out, List.length_append]
        have : kyT [P 128, P 129, ovU P] = kyT [P 128, P 129] ++ (Lib.itoa (ovU P) ++ [32]) := by rw [← kyT_one, ← kyT_append]; rfl
        rw [this, List.length_append, List.length_append, List.length_cons]
        omega)
      have M4 := Lib.hid (fun vb sv W (h : KZ w W P sv (kyT ((List.range (2 * 64)).map P))) hr => M3.out vb sv _ W h hr HL3.out)
      rw [← HEND.out] at M4
      have HST := Lib.hid (fun sv W (h : KZ w W P sv (kyB P)) => h.str HPO.out)
      generalize kyT ((List.range (2 * 64)).map P) = xs at *
      obtain ⟨ys, hys⟩ : ∃ y, kyB P = y := ⟨_, rfl⟩
      rw [hys] at M4 HST
      have HYS := Lib.hid (show (Ending.returned (.string ⟨ys.toArray⟩)) = .returned (.string ⟨(kyB P).toArray⟩) by rw [hys])
      clear hys
      generalize P 128 = s at *
      generalize P 129 = c at *
      generalize ovU P = o at *
      clear M3 HL3 HLEN HPO
      go_upto_region 7 with (fail)
      refine wp_region_noPanic ?_
      refine wp_region_start (n := 11) (l := #[ff, ff, ff, ff, ff, ff, ff, ff, ff, ff, ff]) (S := (fun W => PB W w.heap.size P)) (by kernel_rfl) rfl (by kernel_rfl) (by first | exact HI.out.pb | exact (H1.out.go (Below.refl _ _).drew).pb) (fun hHeld => ?_)
      have HI := Lib.hid (H1.out.go (Below.refl wr.heap.size wr).drew)
      clear H1
      generalize wr.drew = V at *
      refine tq (i := 0) (d := some 20) rfl rfl ?_
      try simp only [aP, sA, sZ, sS]
      refine tq (i := 1) (d := some 21) rfl rfl ?_
      try simp only [aP, sA, sZ, sS]
      refine tg (i := 2) (d := some 22) (v := (.int .i64 s)) rfl rfl ?_ ?_
      · refine Or.inl ⟨by rfl, ?_⟩; intro w' hSw; (try dsimp only at hSw); have cc := c1.out _ hSw; go_simp
      try simp only [aP, sA, sZ, sS]
      refine tq (i := 3) (d := some 23) rfl rfl ?_
      try simp only [aP, sA, sZ, sS]
      refine tg (i := 4) (d := some 24) (v := (.int .i64 c)) rfl rfl ?_ ?_
      · refine Or.inl ⟨by rfl, ?_⟩; intro w' hSw; (try dsimp only at hSw); have cc := c2.out _ hSw; go_simp
      try simp only [aP, sA, sZ, sS]
      refine tg (i := 5) (d := some 25) (v := (.agg X)) rfl rfl ?_ ?_
      · exact yields_posC (by rfl) _ (by rfl) w.heap.size P X HX.out (by rfl) (fun W h => h)
      try simp only [aP, sA, sZ, sS]
      refine og (i := 6) rfl (by kernel_rfl) (fun K hK => ?_)
      go_simp
      refine (MO.out _ HI.out.b).mono ?_
      rintro e V ⟨rfl, hb⟩
      replace HI := Lib.hid (HI.out.go hb)
      clear hb
      dsimp only
      refine hK.out _ _ (by first | exact HI.out.pb | exact (H1.out.go (Below.refl _ _).drew).pb) (fun hHeld => ?_)
      clear hK K
      try simp only [aP, sA, sZ, sS]
      refine og (i := 7) rfl (by kernel_rfl) (fun K hK => ?_)
      go_simp
      have HR := Lib.hid (show (V.alloc (.cells #[.int .i64 s, .int .i64 c, .int .i64 o] 3)).heap[V.heap.size]? = some (.cells #[.int .i64 s, .int .i64 c, .int .i64 o] 3 (0, 0)) from sl_at rfl)
      replace HI := Lib.hid (HI.out.go (below_new (.cells #[.int .i64 s, .int .i64 c, .int .i64 o] 3)))
      generalize V.alloc (.cells #[.int .i64 s, .int .i64 c, .int .i64 o] 3) = V2 at *
      generalize V.heap.size = vb at *
      refine hK.out _ _ (by first | exact HI.out.pb | exact (H1.out.go (Below.refl _ _).drew).pb) (fun hHeld => ?_)
      clear hK K
      try simp only [aP, sA, sZ, sS]
      refine og (i := 8) rfl (by kernel_rfl) (fun K hK => ?_)
      go_simp
      refine (M4.out _ _ _ HI.out HR.out).mono ?_
      rintro e V ⟨v4, rfl, hown, hb, hk⟩
      replace HI := Lib.hid (HI.out.put hown hb hk)
      clear hown hb hk HR
      obtain ⟨g, cap, rfl, hcv⟩ := HST.out _ _ HI.out
      dsimp only
      refine hK.out _ _ (by first | exact HI.out.pb | exact (H1.out.go (Below.refl _ _).drew).pb) (fun hHeld => ?_)
      clear hK K
      try simp only [aP, sA, sZ, sS]
      refine og (i := 9) rfl (by kernel_rfl) (fun K hK => ?_)
      go_simp
      clear hcv
      refine hK.out _ _ (by first | exact HI.out.pb | exact (H1.out.go (Below.refl _ _).drew).pb) (fun hHeld => ?_)
      clear hK K
      try simp only [aP, sA, sZ, sS]
      refine tq (i := 10) (d := some 2) rfl rfl ?_
      try simp only [aP, sA, sZ, sS]
      refine wpAnyH_done (by kernel_rfl) ?_ _
      refine NoPanic.normal ?_
      clear hHeld M4 MO HST
      go_wp2
      go_ret
      exact ⟨HYS.out, HI.out.b⟩
end Go.Proofs.YtkncfeijlmomaaaGreatDoor
