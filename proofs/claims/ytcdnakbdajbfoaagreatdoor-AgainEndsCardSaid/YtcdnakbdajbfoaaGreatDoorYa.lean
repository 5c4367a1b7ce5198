/-
  Contracts of again: what may be taken over.
-/
import Derived.Test.YtcdnakbdajbfoaaGreatDoorM1
import Derived.Test.YtcdnakbdajbfoaaGreatDoorG9
import Derived.Test.YtcdnakbdajbfoaaGreatDoorG17
namespace Go.Proofs.YtcdnakbdajbfoaaGreatDoor
open Go.RowKit Go.Sort
set_option linter.unusedSimpArgs false
set_option linter.unusedVariables false
set_option maxRecDepth 20000

def tovB (P : Nat → Int) (f t k : Int) : Bool := tkP P f t k != -1 && tkP P f t k != t
theorem ovr_tks (P : Nat → Int) (hr : rightB P = true) (s n : Nat) (hs : s < 64) (hn : n < 64) (ho : ownB P s = true) (hg : goB P s n = true) (hov : ovrB P s n = true) : ∃ a : Nat, tksN P s n = (a : Int) ∧ a ≠ n := by
  obtain ⟨p1, p2⟩ := own_parts P s ho
  have hat : atN P s n = 8 * (s / 8) + n % 8 := by unfold atN; rw [if_pos hov]
  have fin : ∀ a : Nat, atN P s n = a → P (2 * a) = 1 → a ≠ n → ∃ a : Nat, tksN P s n = (a : Int) ∧ a ≠ n := fun a h1 h2 h3 =>
    ⟨a, by unfold tksN; rw [h1, if_neg (by unfold emB pe; rw [h2]; simp)], h3⟩
  unfold ovrB pwnB smF at hov
  simp only [Bool.and_eq_true, beq_iff_eq, Bool.not_eq_true', beq_eq_false_iff_ne] at hov
  obtain ⟨⟨⟨hk, hf⟩, h130⟩, _⟩ := hov
  have hover := (right_parts9 P hr).2.2.2.2.1
  unfold overB at hover
  rw [← h130] at hover
  have hnn : ((n : Int) == -1) = false := by first | (simp; done) | (simp; omega)
  rw [hnn, Bool.false_or] at hover
  simp only [Bool.and_eq_true, Int.toNat_natCast] at hover
  have h2 := hover.2
  rcases goB_pawn_how P s n hs hn hk p2 p1 hg with h | ⟨h, _, _, _⟩
  · unfold onN at h
    unfold overC at h2
    by_cases e : P 128 = 1
    · rw [e] at h2 h
      simp only [beq_self_eq_true, if_true, Bool.and_eq_true, beq_iff_eq] at h2 h
      exact fin (n + 8) (by rw [hat]; omega) ((pe_iff _ _ _ _).1 h2.2).1 (by omega)
    · have e2 : (P 128 == 1) = false := by simpa using e
      rw [e2] at h2
      rw [if_neg e] at h
      simp only [Bool.false_eq_true, if_false, Bool.and_eq_true, beq_iff_eq] at h2
      exact fin (n - 8) (by rw [hat]; omega) ((pe_iff _ _ _ _).1 h2.2).1 (by omega)
  · exfalso
    rcases onN_or P with e | e <;> rw [e] at h <;> omega
theorem tov_ovr (P : Nat → Int) (hp : posB P = true) (m : Int × Int × Int) (hm : m ∈ legM P) : tovB P m.1 m.2.1 m.2.2 = ovrB P m.1.toNat m.2.1.toNat := by
  have hr := (pos_parts P hp).1
  obtain ⟨s, n, hv⟩ := allM_mem P m (leg_all P m hm)
  have hok := (leg_mem P m s n hv).1 hm
  have hfl : fltN (handP P) s n m.2.2 = 0 := by
    unfold okM badQ at hok
    simp only [Bool.and_eq_true, Bool.not_eq_true', Bool.or_eq_false_iff, Bool.not_eq_false', beq_iff_eq] at hok
    exact hok.2.1
  unfold tovB tkP
  rw [hv.f, hv.t, if_pos hfl, right_hand P hr, Int.toNat_natCast, Int.toNat_natCast]
  cases e : ovrB P s n
  · unfold tksN atN
    rw [e]
    simp only [Bool.false_eq_true, if_false]
    split
    · rfl
    · simp
  · obtain ⟨a, ha, hne⟩ := ovr_tks P hr s n hv.hs hv.hn hv.o hv.g e
    rw [ha]
    have h1 : ((a : Int) != -1) = true := by simp only [bne_iff_ne, ne_eq]; omega
    have h2 : ((a : Int) != (n : Int)) = true := by simp only [bne_iff_ne, ne_eq]; omega
    rw [h1, h2]; rfl
theorem any_at {l : List (Int × Int × Int)} {q : Int → Int → Int → Bool} {i : Nat} (hi : i < l.length) (h : q (mF l i) (mT l i) (mK l i) = true) : l.any (fun m => q m.1 m.2.1 m.2.2) = true := by
  refine List.any_eq_true.2 ⟨l[i], List.getElem_mem hi, ?_⟩
  unfold mF mT mK at h
  rw [List.getD_eq_getElem?_getD, List.getElem?_eq_getElem hi] at h
  exact h
theorem any_none {l : List (Int × Int × Int)} {q : Int → Int → Int → Bool} (h : ∀ i, i < l.length → q (mF l i) (mT l i) (mK l i) = false) : l.any (fun m => q m.1 m.2.1 m.2.2) = false := by
  rw [List.any_eq_false]
  intro m hm
  obtain ⟨i, hi, rfl⟩ := List.mem_iff_getElem.1 hm
  have := h i hi
  unfold mF mT mK at this
  rw [List.getD_eq_getElem?_getD, List.getElem?_eq_getElem hi] at this
  simpa using this
theorem any_congr {α : Type} {p q : α → Bool} : ∀ l : List α, (∀ x ∈ l, p x = q x) → l.any p = l.any q
  | [], _ => rfl
  | a :: l, h => by rw [List.any_cons, List.any_cons, h a (List.mem_cons_self ..), any_congr l fun x hx => h x (List.mem_cons_of_mem _ hx)]
theorem tkO_is (P : Nat → Int) : tkO P = if P 130 = -1 then -1 else if (lmM P).any (fun m => tovB P m.1 m.2.1 m.2.2) then P 130 else -1 := by
  unfold tkO
  have : (lmM P).any (fun m => ovrB P m.1.toNat m.2.1.toNat) = (lmM P).any (fun m => tovB P m.1 m.2.1 m.2.2) := by
    unfold lmM
    cases hp : posB P
    · rfl
    · exact any_congr _ fun m hm => (tov_ovr P hp m hm).symm
  rw [this]
set_option maxHeartbeats 4000000 in
set_option maxRecDepth 100000 in
theorem tov_any12 (P : Nat → Int) (f t k : Int) (w : World) :
    Calls Tryz.prog 30 #[.agg (pc P).toArray, .agg #[.int .i64 f, .int .i64 t, .int .i64 k]] w fun e w' => e = .returned (.bool (tovB P f t k)) ∧ Below w.heap.size w w' := by
  obtain ⟨X, hX⟩ : ∃ X, X = (pc P).toArray := ⟨_, rfl⟩
  rw [← hX]
  have HI := Lib.hid (MC.begin w P f t k X hX)
  have M1 := Lib.hid (fun W => takesP_any P f t k W)
  rw [← hX] at M1
  have HR := Lib.hid (show tovB P f t k = (tkP P f t k != -1 && tkP P f t k != t) from rfl)
  generalize tovB P f t k = R at *
  generalize tkP P f t k = T at *
  have HX := Lib.hid hX
  clear hX
  go_enter Tryz.func30, Tryz.ntmps30
  go_upto_region 1 with (fail)
  refine forget_B (fun W => MC w W P f t k) HI.out ?_
  clear HI
  intro W hi
  have HI := Lib.hid hi
  clear hi
  obtain ⟨q0, q1, q2, qf, qz⟩ := row3 HI.out.m
  go_wp2_with (first | refine wpList_pos (by rfl) _ (by rfl) w.heap.size P X HX.out (by rfl) HI.out.p ?_ | fail)
  refine (M1.out _).mono ?_
  rintro e w1 ⟨rfl, hb⟩
  replace HI := Lib.hid (HI.out.go hb)
  clear hb M1 q0 q1 q2 qf qz
  obtain ⟨q0, q1, q2, qf, qz⟩ := row3 HI.out.m
  dsimp only
  refine list_go (by assumption) ?_
  by_cases h1 : T = -1
  · have HT := Lib.hid h1
    have e1 : (T != -1) = false := by simp [h1]
    clear h1
    go_wp2
    go_ret
    exact ⟨q_b (by rw [HR.out, HT.out]; rfl), HI.out.b⟩
  · have e1 : (T != -1) = true := by simpa using h1
    have HT := Lib.hid e1
    clear h1
    go_wp2
    go_ret
    exact ⟨q_b (by rw [HR.out, HT.out]; rfl), HI.out.b⟩
structure OV (B : Nat) (w W : World) (P : Nat → Int) : Prop where
  p : PB W w.heap.size P
  b : Below w.heap.size w W
theorem OV.go {B : Nat} {w W W' : World} {P : Nat → Int} (h : OV B w W P) (g : Below W.heap.size W W') : OV B w W' P := ⟨h.p.go g, h.b.trans (g.mono h.b.size)⟩
theorem OV.begin (B : Nat) (w : World) (P : Nat → Int) (X : Array Value) (hX : X = (pc P).toArray) : OV B w (w.alloc (.cells X 30)) P :=
  ⟨by rw [hX]; exact PB.new rfl, below_new _⟩
set_option maxHeartbeats 4000000 in
set_option maxRecDepth 100000 in
theorem over_any (P : Nat → Int) (w : World) (B : Nat) (hgb : GB B w) (hgs : GS B w) (hgm : GM B w) (hgp : GP B w) (hB : B ≤ w.heap.size) :
    Calls Tryz.prog 9 #[.agg (pc P).toArray] w fun e w' => e = .returned (.int .i64 (tkO P)) ∧ Below w.heap.size w w' := by
  obtain ⟨X, hX⟩ : ∃ X, X = (pc P).toArray := ⟨_, rfl⟩
  have HI := Lib.hid (OV.begin B w P X hX)
  have HM := Lib.hid (fun W (h : Below w.heap.size w W) => lMoves_any P W B (hgb.below (h.mono hB)) (hgs.below (h.mono hB)) (hgm.below (h.mono hB)) (hgp.below (h.mono hB)) (Nat.le_trans hB h.size))
  rw [← hX] at HM ⊢
  have hR := tkO_is P
  obtain ⟨L, hL⟩ : ∃ L, lmM P = L := ⟨_, rfl⟩
  rw [hL] at HM hR
  obtain ⟨T, hT⟩ : ∃ T, tkO P = T := ⟨_, rfl⟩
  rw [hT] at hR ⊢
  have HYES := Lib.hid (fun i (hi : i < L.length) => any_at (q := fun f t k => tovB P f t k) (l := L) hi)
  have HNO := Lib.hid (any_none (q := fun f t k => tovB P f t k) (l := L))
  have HOWN := Lib.hid (fun (W : World) base v (h : W.ownsRow base 52 3 v L.length (mvals L)) => reads3_own h)
  have MT := Lib.hid (fun f t k W => tov_any12 P f t k W)
  rw [← hX] at MT
  obtain ⟨ov, hov⟩ : ∃ x, P 130 = x := ⟨_, rfl⟩
  have HC := Lib.hid (fun W (h : OV B w W P) => by have := h.p.cell 130 (by omega); rw [hov] at this; exact this)
  rw [hov] at hR
  have HR := Lib.hid hR
  have HX := Lib.hid hX
  obtain ⟨n, hn⟩ : ∃ n, L.length = n := ⟨_, rfl⟩
  have n0 : n ≤ 17920 := by
    rw [← hn, ← hL]
    unfold lmM
    split
    · exact legM_len P
    · exact Nat.zero_le _
  rw [hn] at HM HYES HNO HOWN
  generalize mF L = F at *
  generalize mT L = G at *
  generalize mK L = K at *
  clear hX hL hT hR hov hgb hgs hgm hgp hn
  go_enter Tryz.func9, Tryz.ntmps9
  go_upto_region 1 with (fail)
  refine forget_B (fun W => OV B w W P) HI.out ?_
  clear HI
  intro W hi
  have HI := Lib.hid hi
  clear hi
  have c0 := HC.out _ HI.out
  by_cases h1 : ov = -1
  · have HV := Lib.hid h1
    have e1 : (ov == -1) = true := by simp [h1]
    clear h1
    go_wp2
    go_ret
    exact ⟨q_i (by rw [HR.out, if_pos HV.out]), HI.out.b⟩
  · have HV := Lib.hid h1
    have e1 : (ov == -1) = false := by simpa using h1
    clear h1
    go_wp2_with (first | refine wpList_pos (by rfl) _ (by rfl) w.heap.size P X HX.out (by rfl) HI.out.p ?_ | fail)
    refine (HM.out _ HI.out.b).mono ?_
    rintro e w1 ⟨v, rfl, hb, hown⟩
    obtain ⟨rp, rc, rfl, hr3⟩ := HOWN.out _ _ _ hown
    replace HI := Lib.hid (HI.out.go hb)
    have H3 := Lib.hid hr3
    clear hb hown hr3 HM HOWN c0 e1
    dsimp only
    refine list_go (by assumption) ?_
    go_wp2
    go_loopw [11] (fun x wr => ∃ i : Nat, i ≤ n ∧ x = .int .i64 (i : Int) ∧ (∀ j, j < i → tovB P (F j) (G j) (K j) = false) ∧ OV B w wr P ∧ Reads3 wr.heap.size wr rp n F G K) (fun x _ => n - (intOf x).toNat)
    case atStart => exact ⟨0, Nat.zero_le _, rfl, fun j hj => absurd hj (Nat.not_lt_zero _), HI.out, H3.out⟩
    case round =>
      clear HI H3
      obtain ⟨i, hi, rfl, hz, hv, hr⟩ := hrel
      have HI := Lib.hid hv
      have HZ := Lib.hid hz
      have H3 := Lib.hid hr
      clear hv hz hr
      by_cases hlt : i < n
      · have hrd := H3.out
        obtain ⟨pb, po, rfl⟩ := hrd.addr hlt
        obtain ⟨e0, e1, e2⟩ := hrd.cells hlt
        have HY := Lib.hid (HYES.out i hlt)
        have HZ2 := Lib.hid (fun (e : tovB P (F i) (G i) (K i) = false) j (hj : j < i + 1) => show tovB P (F j) (G j) (K j) = false from if h : j < i then HZ.out j h else (show j = i by omega) ▸ e)
        have MI := Lib.hid (fun W => MT.out (F i) (G i) (K i) W)
        obtain ⟨R, hRR⟩ : ∃ R, tovB P (F i) (G i) (K i) = R := ⟨_, rfl⟩
        rw [hRR] at HY HZ2 MI
        generalize F i = f at *
        generalize G i = t at *
        generalize K i = k at *
        have i0 : (0 : Int) ≤ (i : Int) := by omega
        clear hrd hRR
        go_upto_region 6 with (fail)
        clear e0 e1 e2
        refine forget_B (fun W => (OV B w W P ∧ Reads3 W.heap.size W (some ⟨pb, po, none⟩) n F G K) ∧ W.heap[wr.heap.size]? = some (.cells #[.int .i64 f, .int .i64 t, .int .i64 k] 52 (0, 0))) ⟨⟨HI.out.go (below_new _), (H3.out.below (below_new _)).mono (below_new _).size⟩, sl_at rfl⟩ ?_
        clear HI H3
        intro W1 hs1
        have HI := Lib.hid hs1
        clear hs1
        generalize wr.heap.size = mb at *
        obtain ⟨m0, m1, m2, mf, mz⟩ := row3 HI.out.2
        go_wp2_with (first | refine wpList_pos (by rfl) _ (by rfl) w.heap.size P X HX.out (by rfl) HI.out.1.1.p ?_ | fail)
        refine (MI.out _).mono ?_
        rintro e w2 ⟨rfl, hb⟩
        replace HI := Lib.hid (And.intro (HI.out.1.1.go hb) ((HI.out.1.2.below hb).mono hb.size))
        clear hb m0 m1 m2 mf mz MI
        dsimp only
        refine list_go (by assumption) ?_
        cases R
        · go_wp2
          go_roundw
          case rel => exact ⟨i + 1, by omega, by go_num, HZ2.out rfl, HI.out.1, HI.out.2⟩
          case measure => simp [intOf]; omega
        · have c0 := HC.out _ HI.out.1
          go_wp2
          go_ret
          exact ⟨q_i (by rw [HR.out, if_neg HV.out, HY.out (by trivial)]; rfl), HI.out.1.b⟩
      · obtain rfl : i = n := by omega
        go_wp2
        go_ret
        exact ⟨q_i (by rw [HR.out, if_neg HV.out, HNO.out HZ.out]; rfl), HI.out.b⟩
set_option maxHeartbeats 4000000 in
set_option maxRecDepth 100000 in
theorem overU_any (P : Nat → Int) (w : World) (B : Nat) (hgb : GB B w) (hgs : GS B w) (hgm : GM B w) (hgp : GP B w) (hB : B ≤ w.heap.size) :
    Calls Tryz.prog 32 #[.agg (pc P).toArray] w fun e w' => e = .returned (.int .i64 (ovU P)) ∧ Below w.heap.size w w' := by
  obtain ⟨X, hX⟩ : ∃ X, X = (pc P).toArray := ⟨_, rfl⟩
  have HI := Lib.hid (OV.begin B w P X hX)
  have HM := Lib.hid (fun W (h : Below w.heap.size w W) => over_any (uncN P) W B (hgb.below (h.mono hB)) (hgs.below (h.mono hB)) (hgm.below (h.mono hB)) (hgp.below (h.mono hB)) (Nat.le_trans hB h.size))
  rw [← hX]
  obtain ⟨Y, hY⟩ : ∃ Y, Y = (pc (uncN P)).toArray := ⟨_, rfl⟩
  rw [← hY] at HM
  have HY := Lib.hid hY
  have HT := Lib.hid (show tkO (uncN P) = ovU P from rfl)
  generalize tkO (uncN P) = T at *
  clear hX hY hgb hgs hgm hgp
  go_enter Tryz.func32, Tryz.ntmps32
  go_upto_region 1 with (fail)
  refine forget_B (fun W => OV B w W P) HI.out ?_
  clear HI
  intro W hi
  have HI := Lib.hid hi
  clear hi
  have c1 := HI.out.p.cell 131 (by omega)
  have f1 := HI.out.p.fr 131
  have c2 := (HI.out.p.set 131 0 (by omega)).cell 132 (by omega)
  have f2 := (HI.out.p.set 131 0 (by omega)).fr 132
  have HP := Lib.hid ((HI.out.p.set 131 0 (by omega)).set 132 1 (by omega))
  have HB := Lib.hid (show Below w.heap.size w ((W.setCell ⟨w.heap.size, 131, none⟩ (.int .i64 0)).setCell ⟨w.heap.size, 132, none⟩ (.int .i64 1)) from (HI.out.b.setCell (p := ⟨w.heap.size, 131, none⟩) (Nat.le_refl _) _).setCell (p := ⟨w.heap.size, 132, none⟩) (Nat.le_refl _) _)
  go_upto_region 2 with (fail)
  clear c1 f1 c2 f2
  refine forget_B (fun W => PB W w.heap.size (uncN P) ∧ Below w.heap.size w W) ⟨HP.out, HB.out⟩ ?_
  clear HI HP HB
  rintro W1 ⟨h1, h2⟩
  have HP := Lib.hid h1
  have HB := Lib.hid h2
  clear h1 h2
  go_wp2_with (first | refine wpList_pos (by rfl) _ (by rfl) w.heap.size (uncN P) Y HY.out (by rfl) HP.out ?_ | fail)
  refine (HM.out _ HB.out).mono ?_
  rintro e w2 ⟨rfl, hb⟩
  replace HB := Lib.hid (HB.out.trans (hb.mono HB.out.size))
  clear hb HM
  dsimp only
  refine list_go (by assumption) ?_
  go_wp2
  go_ret
  exact ⟨q_i HT.out, HB.out⟩
end Go.Proofs.YtcdnakbdajbfoaaGreatDoor
