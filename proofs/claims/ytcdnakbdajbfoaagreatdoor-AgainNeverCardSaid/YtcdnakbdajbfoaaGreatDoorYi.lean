/-
  AgainLegal: what stands.
-/
import Derived.Test.YtcdnakbdajbfoaaGreatDoorM4
import Derived.Test.YtcdnakbdajbfoaaGreatDoorYb
import Derived.Test.YtcdnakbdajbfoaaGreatDoorM2
import Derived.Test.YtcdnakbdajbfoaaGreatDoorG17
namespace Go.Proofs.YtcdnakbdajbfoaaGreatDoor
open Go.RowKit Go.Sort Go.Maps
set_option linter.unusedSimpArgs false
set_option linter.unusedVariables false
set_option maxRecDepth 20000

theorem tmod_pos12 (n : Int) (h : 0 < n) (a : Int) : a % n = if a.tmod n < 0 then a.tmod n + n else a.tmod n := by
  rcases Int.lt_or_le a 0 with hn | hn
  · have e : a.tmod n = -((-a) % n) := by
      rw [← Int.tmod_eq_emod_of_nonneg (show 0 ≤ -a by omega), Int.neg_tmod, Int.neg_neg]
    have h1 := Int.emod_nonneg (-a) (show n ≠ 0 by omega)
    have h2 := Int.emod_lt_of_pos (-a) h
    have h3 := Int.emod_add_mul_ediv (-a) n
    rw [e]
    split
    · have : a = (-((-a) % n) + n) + n * (-((-a) / n) - 1) := by
        rw [Int.mul_sub, Int.mul_neg]; omega
      rw [this, Int.add_mul_emod_self_left]
      have e2 : (-((-a) % n) + n + n * (-(-a / n) - 1)) = a := this.symm
      rw [e2]
      exact Int.emod_eq_of_lt (by omega) (by omega)
    · have h0 : (-a) % n = 0 := by omega
      rw [h0]
      have : n ∣ -a := Int.dvd_of_emod_eq_zero h0
      have : n ∣ a := by simpa using this
      rw [Int.emod_eq_zero_of_dvd this]; rfl
  · rw [Int.tmod_eq_emod_of_nonneg hn, if_neg (by have := Int.emod_nonneg a (show n ≠ 0 by omega); omega)]
set_option maxHeartbeats 1000000 in
theorem pick12_any (a n : Int) (h0 : 0 < n) (h1 : n ≤ 100000) (w : World) :
    Calls Tryz.prog 23 #[.int .i64 a, .int .i64 n] w fun e w' => e = .returned (.int .i64 (a % n)) ∧ w = w' := by
  have g1 := Int.tmod_lt_of_pos a h0
  have g2 := Int.lt_tmod_of_pos a h0
  have hm := tmod_pos12 n h0 a
  have hz : ¬ n < 1 := by omega
  have hnz : (n == 0) = false := beq_eq_false_iff_ne.2 (by omega)
  have hnz2 : ¬ n = 0 := by omega
  by_cases hneg : a.tmod n < 0
  · rw [if_pos hneg] at hm
    rw [hm]
    clear hm
    have s1 : IntKind.i64.wrap (a.tmod n + n) = a.tmod n + n := IntWalk.i64_in _ (by omega)
    have s2 : IntKind.i64.wrap (a.tmod n) = a.tmod n := IntWalk.i64_in _ (by omega)
    go_enter Tryz.func23, Tryz.ntmps23
    go_wp2
    go_ret
    exact ⟨rfl, rfl⟩
  · rw [if_neg hneg] at hm
    rw [hm]
    clear hm
    go_enter Tryz.func23, Tryz.ntmps23
    go_wp2
    go_ret
    exact ⟨rfl, rfl⟩
theorem one_row12 (V : World) (f t k : Int) : Reads3 (V.alloc (.cells #[.int .i64 f, .int .i64 t, .int .i64 k] 52)).heap.size (V.alloc (.cells #[.int .i64 f, .int .i64 t, .int .i64 k] 52)) (some ⟨V.heap.size, 0, none⟩) 1 (fun _ => f) (fun _ => t) (fun _ => k) := by
  have hat : (V.alloc (.cells #[.int .i64 f, .int .i64 t, .int .i64 k] 52)).heap[V.heap.size]? = some (.cells #[.int .i64 f, .int .i64 t, .int .i64 k] 52 (0, 0)) := sl_at rfl
  obtain ⟨q0, q1, q2, _, _⟩ := row3 hat
  refine .inr ⟨V.heap.size, 0, rfl, by simp, fun i hi => ?_⟩
  obtain rfl : i = 0 := by omega
  exact ⟨q0, q1, q2⟩
theorem pl_one12 (P : Nat → Int) (hp : posB P = true) (f t k : Int) (h : legB P f t k = true) : plP P (fun _ => f) (fun _ => t) (fun _ => k) 1 = nxP P f.toNat t.toNat k ∧ plE P (fun _ => f) (fun _ => t) (fun _ => k) 1 = 0 := by
  have ha : advN P (fun _ => f) (fun _ => t) (fun _ => k) 1 = some (nxP P f.toNat t.toNat k) := adv_go (i := 0) (Q := P) rfl h
  unfold plP plE
  rw [hp, ha]
  exact ⟨rfl, rfl⟩
theorem leg_at12 (P : Nat → Int) (hp : posB P = true) (m : Nat) (h : m < (legM P).length) : ∃ (s t : Nat) (k : Int), mF (legM P) m = (s : Int) ∧ mT (legM P) m = (t : Int) ∧ mK (legM P) m = k ∧ LgOk P ((s : Int), (t : Int), k) s t ∧ (legM P)[m] = ((s : Int), (t : Int), k) := by
  obtain ⟨s, t, hg⟩ := leg_ok P hp _ (List.getElem_mem h)
  have e : (legM P).getD m (0, 0, 0) = (legM P)[m] := by rw [List.getD_eq_getElem?_getD, List.getElem?_eq_getElem h]; rfl
  have h1 := hg.x.mv.f
  have h2 := hg.x.mv.t
  obtain ⟨a, b, c, ec⟩ : ∃ a b c, (legM P)[m] = (a, b, c) := ⟨_, _, _, rfl⟩
  rw [ec] at h1 h2 hg e
  simp only at h1 h2
  subst h1; subst h2
  exact ⟨s, t, c, by unfold mF; rw [e], by unfold mT; rw [e], by unfold mK; rw [e], hg, ec⟩
theorem PB.gr12 {W W' : World} {b x : Nat} {P : Nat → Int} (h : PB W b P) (g : W.grownBy W' (some x)) (hx : x ≠ b) : PB W' b P := by
  have e := g.block b h.lt (by intro e; exact hx (Option.some.inj e).symm)
  exact ⟨Nat.lt_of_lt_of_le h.lt g.size, fun i hi => by rw [World.cell?_of_block (a := ⟨b, i, none⟩) e]; exact h.cell i hi, fun i => by rw [← h.fr i]; simp only [World.frozen?, e]⟩
theorem ReadsP.mono {B C : Nat} {w : World} {p : Option Addr} {m : Nat} {Ps : Nat → Nat → Int} (h : ReadsP B w p m Ps) (hB : B ≤ C) : ReadsP C w p m Ps := by
  rcases h with h | ⟨rb, off, h1, h2, h3⟩
  · exact .inl h
  · exact .inr ⟨rb, off, h1, by omega, h3⟩
theorem ReadsP.go {w w' : World} {p : Option Addr} {m : Nat} {Ps : Nat → Nat → Int} (h : ReadsP w.heap.size w p m Ps) (g : Below w.heap.size w w') : ReadsP w'.heap.size w' p m Ps := (h.below g).mono g.size
theorem ReadsP.at {B : Nat} {w : World} {lb o m : Nat} {Ps : Nat → Nat → Int} (h : ReadsP B w (some ⟨lb, o, none⟩) m Ps) {i : Nat} (hi : i < m) : w.rangeAt lb (o + i * 133) (pc (Ps i)) := by
  rcases h with h | ⟨rb, off, h1, h2, h3⟩
  · omega
  · cases h1; exact h3 i hi
theorem yields_posAt {ops : Array Oper} {S : World → Prop} {op : Oper} {a : Act} (hw : Region.wanted op (yielded ops a.tmps) = true) (x : Operand) (ho : op.op = .load 30 x)
    (b o : Nat) (P : Nat → Int) (X : Array Value) (hX : X = (pc P).toArray) (hx : a.eval x = .pointer (some ⟨b, o, none⟩)) (hS : ∀ w, S w → w.rangeAt b o (pc P)) : YieldsIf Tryz.prog ops S op (.agg X) a := by
  subst hX
  exact yieldsIf_load_mid hw 30 x ho b o hx (pc P) _ hS Tryz.underlying30 rfl (by rw [infoPos, pc_len])
theorem readsP_row {W : World} {lb m : Nat} {Ps : Nat → Nat → Int} {Xs : List (Array Value)} (hX : Xs = (List.range m).map fun i => (pc (Ps i)).toArray)
    (h : W.heap[lb]? = some (.cells (Xs.flatMap fun X => X.toList).toArray 30 (0, 0))) : ReadsP W.heap.size W (some ⟨lb, 0, none⟩) m Ps := by
  refine .inr ⟨lb, 0, rfl, (Array.getElem?_eq_some_iff.1 h).1, fun i hi j v hv => ?_⟩
  have hj : j < 133 := by have := (List.getElem?_eq_some_iff.1 hv).1; rwa [pc_len] at this
  have hs : ∀ v ∈ Xs.map Value.agg, v.cells.size = 133 := fun v hv => by
    rw [hX] at hv
    simp only [List.map_map, List.mem_map] at hv
    obtain ⟨i, _, rfl⟩ := hv
    exact pc_size (Ps i)
  have hf := Great.flat_get (s := 133) (by omega) (Xs.map Value.agg) hs (i * 133 + j)
  rw [cell_of_row W lb _ _ _ (0, 0) h, Nat.zero_add, List.getElem?_toArray]
  rw [show (Xs.flatMap fun X => X.toList) = (Xs.map Value.agg).flatMap fun v => v.cells.toList by rw [List.flatMap_map]; rfl, hf, show (i * 133 + j) / 133 = i by omega, show (i * 133 + j) % 133 = j by omega, hX]
  simp only [List.map_map, List.getElem?_map, List.getElem?_range hi, Option.map_some, Option.bind_some, Function.comp]
  show (pc (Ps i)).toArray[j]? = some v
  rw [List.getElem?_toArray]
  exact hv
structure LG (B rb : Nat) (w W : World) (P Q R : Nat → Int) : Prop where
  p : PB W w.heap.size P
  q : PB W (w.heap.size + 1) Q
  r : PB W rb R
  bl : Below w.heap.size w W
  e : EN B W
  hr : w.heap.size + 2 ≤ rb
  hB : B ≤ w.heap.size
theorem LG.go {B rb : Nat} {w W W' : World} {P Q R : Nat → Int} (h : LG B rb w W P Q R) (g : Below W.heap.size W W') : LG B rb w W' P Q R :=
  ⟨h.p.go g, h.q.go g, h.r.go g, h.bl.trans (g.mono h.bl.size), h.e.go g, h.hr, h.hB⟩
theorem LG.set {B rb : Nat} {w W : World} {P Q R : Nat → Int} (h : LG B rb w W P Q R) (i : Nat) (x : Int) (hi : i < 133) : LG B rb w (W.setCell ⟨rb, i, none⟩ (.int .i64 x)) P Q (setN R i x) := by
  have hr := h.hr
  have g := gr1_B (hb := rb) (i := i) (w := W) (.int .i64 x)
  have hb : Below w.heap.size W (W.setCell ⟨rb, i, none⟩ (.int .i64 x)) := (Below.refl _ _).setCell (p := ⟨rb, i, none⟩) (by show w.heap.size ≤ rb; omega) _
  exact ⟨h.p.gr12 g (by omega), h.q.gr12 g (by omega), h.r.set i x hi, h.bl.trans hb, h.e.on (hb.mono h.hB), h.hr, h.hB⟩
structure AL (B lb : Nat) (P : Nat → Int) (Ls : Nat → Nat → Int) (w W : World) : Prop where
  p : PB W w.heap.size P
  l : ReadsP W.heap.size W (some ⟨lb, 0, none⟩) 2 Ls
  bl : Below w.heap.size w W
  e : EN B W
theorem AL.go {B lb : Nat} {P : Nat → Int} {Ls : Nat → Nat → Int} {w W W' : World} (h : AL B lb P Ls w W) (g : Below W.heap.size W W') : AL B lb P Ls w W' :=
  ⟨h.p.go g, h.l.go g, h.bl.trans (g.mono h.bl.size), h.e.go g⟩
structure IL (B lb : Nat) (P : Nat → Int) (Ls : Nat → Nat → Int) (ap bp : Option Addr) (n : Nat) (F T K : Nat → Int) (w W : World) : Prop where
  a : AL B lb P Ls w W
  r1 : Reads3 W.heap.size W ap n F T K
  r2 : Reads3 W.heap.size W bp n F T K
theorem IL.go {B lb : Nat} {P : Nat → Int} {Ls : Nat → Nat → Int} {ap bp : Option Addr} {n : Nat} {F T K : Nat → Int} {w W W' : World} (h : IL B lb P Ls ap bp n F T K w W) (g : Below W.heap.size W W') : IL B lb P Ls ap bp n F T K w W' :=
  ⟨h.a.go g, (h.r1.below g).mono g.size, (h.r2.below g).mono g.size⟩
theorem same_mv {P L : Nat → Int} (hp : posB P = true) (hq : posB L = true) (hs : samB P L = true) :
    lmM P = legM P ∧ lmM L = legM P ∧ ∀ m, m < (legM P).length → ∃ s t k N1 N2, mF (legM P) m = s ∧ mT (legM P) m = t ∧ mK (legM P) m = k ∧ plP P (fun _ => s) (fun _ => t) (fun _ => k) 1 = N1 ∧ plE P (fun _ => s) (fun _ => t) (fun _ => k) 1 = 0 ∧
      plP L (fun _ => s) (fun _ => t) (fun _ => k) 1 = N2 ∧ plE L (fun _ => s) (fun _ => t) (fun _ => k) 1 = 0 ∧ samB N1 N2 = true := by
  obtain ⟨h1, h2⟩ := (samB_iff P L).1 hs
  rw [ovU_pos hp, ovU_pos hq] at h2
  obtain ⟨hl, hn⟩ := same_leg h1 hp hq h2
  refine ⟨by unfold lmM; rw [if_pos hp], by unfold lmM; rw [if_pos hq, hl], fun m hm => ?_⟩
  obtain ⟨s, t, k, q1, q2, q3, hg, hel⟩ := leg_at12 P hp m hm
  have hmem : ((s : Int), (t : Int), k) ∈ legM P := by rw [← hel]; exact List.getElem_mem _
  have b1 : legB P (s : Int) (t : Int) k = true := (legB_iff P _ _ _).2 hmem
  have b2 : legB L (s : Int) (t : Int) k = true := (legB_iff L _ _ _).2 (by rw [← hl]; exact hmem)
  have p1 := pl_one12 P hp (s : Int) (t : Int) k b1
  have p2 := pl_one12 L hq (s : Int) (t : Int) k b2
  exact ⟨(s : Int), (t : Int), k, _, _, q1, q2, q3, p1.1, p1.2, p2.1, p2.2, samB_like (hn _ hmem)⟩
end Go.Proofs.YtcdnakbdajbfoaaGreatDoor
