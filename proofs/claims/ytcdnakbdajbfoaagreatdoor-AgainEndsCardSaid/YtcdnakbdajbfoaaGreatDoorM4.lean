/-
  Merged: Uo, Yg, Yh.
-/
import Derived.Test.YtcdnakbdajbfoaaGreatDoorG27
import Derived.Test.YtcdnakbdajbfoaaGreatDoorG13
import Derived.Test.YtcdnakbdajbfoaaGreatDoorM3
import Derived.Test.YtcdnakbdajbfoaaGreatDoorM2
import Derived.Great.BuildSlice

namespace Go.Proofs.YtcdnakbdajbfoaaGreatDoor
open Go.RowKit Go.Sort
set_option linter.unusedSimpArgs false
set_option linter.unusedVariables false
set_option maxRecDepth 20000

end Go.Proofs.YtcdnakbdajbfoaaGreatDoor

namespace Go.Proofs.YtcdnakbdajbfoaaGreatDoor
open Go.RowKit Go.Sort Go.Maps
set_option linter.unusedSimpArgs false
set_option linter.unusedVariables false
set_option maxRecDepth 20000

def knF (i : Nat) : Int := if i = 0 then 6 else if i = 1 then 62 else if i = 2 then 21 else 45
def knT (i : Nat) : Int := if i = 0 then 21 else if i = 1 then 45 else if i = 2 then 6 else 62
def knP : Nat → Nat → Int
  | 0 => startN
  | i + 1 => nxP (knP i) (knF i).toNat (knT i).toNat 0
def knOk (i : Nat) : Bool := ownB (knP i) (knF i).toNat && goB (knP i) (knF i).toNat (knT i).toNat && becB (knP i) (knF i).toNat (knT i).toNat 0 && okM (knP i) (knF i).toNat (knT i).toNat 0
theorem kn_ok : ∀ i, i < 4 → knOk i = true := by decide +kernel
theorem kn_pos : ∀ i, i < 5 → posB (knP i) = true := by decide +kernel
theorem kn_in {i : Nat} (h : i < 5) : InW (knP i) := right_in (pos_parts _ (kn_pos i h)).1
theorem kn_sq : ∀ i, i < 4 → knF i = ((knF i).toNat : Int) ∧ knT i = ((knT i).toNat : Int) ∧ (knF i).toNat < 64 ∧ (knT i).toNat < 64 := by decide +kernel
theorem kn_step (i : Nat) (h : i < 4) : plP (knP i) (fun _ => knF i) (fun _ => knT i) (fun _ => 0) 1 = knP (i + 1) := by
  have ho := kn_ok i h
  unfold knOk at ho
  simp only [Bool.and_eq_true] at ho
  obtain ⟨⟨⟨o1, o2⟩, o3⟩, o4⟩ := ho
  obtain ⟨s1, s2, s3, s4⟩ := kn_sq i h
  have hl : legB (knP i) (knF i) (knT i) 0 = true := (legB_iff _ _ _ _).2 ((leg_mem (knP i) (knF i, knT i, 0) _ _ ⟨s1, s2, s3, s4, o1, o2, o3⟩).2 o4)
  unfold plP
  rw [if_pos (kn_pos i (by omega)), adv_go (P := knP i) (F := fun _ => knF i) (T := fun _ => knT i) (K := fun _ => 0) (i := 0) (Q := knP i) rfl hl]
  rfl
theorem kn_not : ∀ i, i < 4 → ∀ j, j < i → samB (knP i) (knP j) = false := by decide +kernel
theorem kn_same : samB (knP 4) (knP 0) = true := by decide +kernel
theorem kn_not4 : ∀ j, j < 3 → samB (knP 4) (knP (j + 1)) = false := by decide +kernel
def txK : Nat → List (List UInt8)
  | 0 => [kyB (knP 0)]
  | i + 1 => kyB (knP (i + 1)) :: txK i
theorem kn_ne (i : Nat) (hi : i < 4) (j : Nat) (hj : j < i) : kyB (knP i) ≠ kyB (knP j) := fun e => by
  have := (kyB_iff _ _).1 e
  rw [kn_not i hi j hj] at this
  cases this
theorem kn_ne4 (j : Nat) (hj : j < 3) : kyB (knP 4) ≠ kyB (knP (j + 1)) := fun e => by
  have := (kyB_iff _ _).1 e
  rw [kn_not4 j hj] at this
  cases this
theorem kn_eq4 : kyB (knP 4) = kyB (knP 0) := (kyB_iff _ _).2 kn_same
theorem txK_len (i : Nat) : (txK i).length = i + 1 := by
  induction i with
  | zero => rfl
  | succ i ih => unfold txK; rw [List.length_cons, ih]
theorem kn_count (i : Nat) (hi : i < 4) : cntT (kyB (knP (i + 1)) :: txK i) (kyB (knP (i + 1))) = 1 + i / 3 := by
  have n10 := kn_ne 1 (by omega) 0 (by omega)
  have n20 := kn_ne 2 (by omega) 0 (by omega)
  have n21 := kn_ne 2 (by omega) 1 (by omega)
  have n30 := kn_ne 3 (by omega) 0 (by omega)
  have n31 := kn_ne 3 (by omega) 1 (by omega)
  have n32 := kn_ne 3 (by omega) 2 (by omega)
  have m1 := kn_ne4 0 (by omega)
  have m2 := kn_ne4 1 (by omega)
  have m3 := kn_ne4 2 (by omega)
  have e4 := kn_eq4
  simp only [Nat.zero_add, Nat.reduceAdd] at m1 m2 m3
  rcases (show i = 0 ∨ i = 1 ∨ i = 2 ∨ i = 3 by omega) with rfl | rfl | rfl | rfl
  · unfold cntT txK
    generalize kyB (knP 0) = k0 at *
    generalize kyB (knP (0 + 1)) = k1 at *
    rw [List.count_cons_self, List.count_cons_of_ne (Ne.symm n10), List.count_nil]
  · unfold cntT; simp only [txK]
    generalize kyB (knP 0) = k0 at *
    generalize kyB (knP (0 + 1)) = k1 at *
    generalize kyB (knP (1 + 1)) = k2 at *
    rw [List.count_cons_self, List.count_cons_of_ne (Ne.symm n21), List.count_cons_of_ne (Ne.symm n20), List.count_nil]
  · unfold cntT; simp only [txK]
    generalize kyB (knP 0) = k0 at *
    generalize kyB (knP (0 + 1)) = k1 at *
    generalize kyB (knP (1 + 1)) = k2 at *
    generalize kyB (knP (2 + 1)) = k3 at *
    rw [List.count_cons_self, List.count_cons_of_ne (Ne.symm n32), List.count_cons_of_ne (Ne.symm n31), List.count_cons_of_ne (Ne.symm n30), List.count_nil]
  · unfold cntT; simp only [txK]
    rw [show kyB (knP (3 + 1)) = kyB (knP 0) from e4]
    rw [e4] at m1 m2 m3
    generalize kyB (knP 0) = k0 at *
    generalize kyB (knP (0 + 1)) = k1 at *
    generalize kyB (knP (1 + 1)) = k2 at *
    generalize kyB (knP (2 + 1)) = k3 at *
    rw [List.count_cons_self, List.count_cons_of_ne (Ne.symm m3), List.count_cons_of_ne (Ne.symm m2), List.count_cons_of_ne (Ne.symm m1), List.count_cons_self, List.count_nil]
theorem kn_most : mostT (txK 4) = 2 := by
  have h0 := kn_count 0 (by omega)
  have h1 := kn_count 1 (by omega)
  have h2 := kn_count 2 (by omega)
  have h3 := kn_count 3 (by omega)
  simp only [txK, mostT] at h0 h1 h2 h3 ⊢
  rw [h0, h1, h2, h3]
  have : cntT [kyB (knP 0)] (kyB (knP 0)) = 1 := by unfold cntT; simp
  rw [this]
  rfl
theorem kn_many : cntT (txK 4) (kyB (knP 0)) = 2 := by
  have h3 := kn_count 3 (by omega)
  have e : txK 4 = kyB (knP (3 + 1)) :: txK 3 := rfl
  rw [e, ← kn_eq4]
  exact h3
end Go.Proofs.YtcdnakbdajbfoaaGreatDoor

namespace Go.Proofs.YtcdnakbdajbfoaaGreatDoor
open Go.RowKit Go.Sort Go.Maps
set_option linter.unusedSimpArgs false
set_option linter.unusedVariables false
set_option maxRecDepth 20000

theorem infoPosZ : ((Tryz.prog.info? 30).bind (·.zero)).isSome = true := by kernel_rfl
theorem wp_sliceP {o : Oper} {a : Act} {w : World} {K : Act → World → Prop} {Q : Exit → Act → World → Prop} (len : Nat) (parts : Array (Nat × Operand)) (ho : o.op = .buildSlice 22 len parts)
    (Xs : List (Array Value)) (hX : ∀ X ∈ Xs, X.size = 133) (hlen : len = Xs.length) (hpos : 0 < len) (hle : len ≤ 1000)
    (hparts : (parts.toList.map fun x => (x.1, a.eval x.2)) = ((Xs.map Value.agg).zipIdx 0).map fun x => (x.2, x.1))
    (h : K (a.put o.dst (.slice (some ⟨w.heap.size, 0, none⟩) len len)) (w.alloc (.cells (Xs.flatMap fun X => X.toList).toArray 30))) : o.wp Tryz.prog a w K Q := by
  cases hie : Tryz.prog.info? 30 with
  | none => have := infoPos; rw [hie] at this; cases this
  | some ie =>
    have hsz := infoPos
    have hz := infoPosZ
    simp only [hie, Option.map_some, Option.some.injEq, Option.bind_some] at hsz hz
    obtain ⟨z, hzz⟩ := Option.isSome_iff_exists.1 hz
    refine wp_buildSlice 22 30 len parts ho _ ie z Tryz.underlying22 hie hzz (by rw [hsz]; omega) (by rw [hsz]; omega) ?_ h
    rw [Array.toList_map, show (parts.toList.map fun (x : Nat × Operand) => match x with | (i, x) => (i, a.eval x)) = parts.toList.map fun x => (x.1, a.eval x.2) from rfl, hparts, hsz]
    have hf := Great.fill_whole (s := 133) (by omega) (Xs.map Value.agg) ((Array.range (len * 133)).map (z.cells[· % z.cells.size]!)) (fun v hv => by obtain ⟨X, hx, rfl⟩ := List.mem_map.1 hv; exact hX X hx) (by simp [hlen])
    rw [hf]
    congr 2
    rw [List.flatMap_map]
    rfl
structure AK (B b mb q : Nat) (i : Nat) (w W : World) : Prop where
  k : BW W b mb (txK i)
  p : PB W q (knP i)
  bl : Below w.heap.size w W
  e : EN B W
  hq : w.heap.size ≤ q
  hb : w.heap.size ≤ b
  hm : w.heap.size ≤ mb
  nb : q ≠ b
  nm : q ≠ mb
theorem AK.go {B b mb q i : Nat} {w W W' : World} (h : AK B b mb q i w W) (g : Below W.heap.size W W') : AK B b mb q i w W' :=
  ⟨h.k.go g, h.p.go g, h.bl.trans (g.mono h.bl.size), h.e.go g, h.hq, h.hb, h.hm, h.nb, h.nm⟩
structure AKn (B b mb q : Nat) (i : Nat) (w W : World) : Prop where
  k : BW W b mb (txK i)
  p : PB W q (knP (i + 1))
  bl : Below w.heap.size w W
  e : EN B W
  hq : w.heap.size ≤ q
  hb : w.heap.size ≤ b
  hm : w.heap.size ≤ mb
  nb : q ≠ b
  nm : q ≠ mb
theorem AKn.go {B b mb q i : Nat} {w W W' : World} (h : AKn B b mb q i w W) (g : Below W.heap.size W W') : AKn B b mb q i w W' :=
  ⟨h.k.go g, h.p.go g, h.bl.trans (g.mono h.bl.size), h.e.go g, h.hq, h.hb, h.hm, h.nb, h.nm⟩
theorem AK.turn {B b mb q i : Nat} {w W : World} (h : AK B b mb q i w W) (hB : B ≤ w.heap.size) : AKn B b mb q i w (W.setCells q 0 (pc (knP (i + 1)))) := by
  have hb : Below w.heap.size w (W.setCells q 0 (pc (knP (i + 1)))) := below_store (b := q) _ h.bl h.hq h.bl.size
  have h2 : Below w.heap.size W (W.setCells q 0 (pc (knP (i + 1)))) := below_store (b := q) _ (Below.refl _ _) h.hq h.bl.size
  exact ⟨h.k.gr (grs_B _ 0 W) h.nb h.nm, h.p.store, hb, h.e.on (h2.mono hB), h.hq, h.hb, h.hm, h.nb, h.nm⟩
theorem AKn.put {B b mb q i : Nat} {w W W' : World} (h : AKn B b mb q i w W) (hk : BW W' b mb (txK (i + 1))) (g : Two b mb W W') (hB : B ≤ w.heap.size) : AK B b mb q (i + 1) w W' := by
  have h1 := g.below (Below.refl w.heap.size W) h.hb h.hm h.bl.size
  exact ⟨hk, g.pb h.p h.nb h.nm, h.bl.trans h1, h.e.on (h1.mono hB), h.hq, h.hb, h.hm, h.nb, h.nm⟩
def knC (i : Nat) : Int := if i = 3 then 2 else 1
def knRow : Array Value := #[.int .i64 6, .int .i64 21, .int .i64 0, .int .i64 62, .int .i64 45, .int .i64 0, .int .i64 21, .int .i64 6, .int .i64 0, .int .i64 45, .int .i64 62, .int .i64 0]
theorem kn_reads (i : Nat) (hi : i < 4) (W : World) (g o : Nat) (h : W.heap[g]? = some (.cells knRow 52 (0, 0))) (ho : o = i * 3) : Reads3 W.heap.size W (some ⟨g, o, none⟩) 1 (fun _ => knF i) (fun _ => knT i) (fun _ => 0) := by
  subst ho
  refine .inr ⟨g, i * 3, rfl, (Array.getElem?_eq_some_iff.1 h).1, fun j hj => ?_⟩
  obtain rfl : j = 0 := by omega
  rw [cell_of_row W g _ _ _ (0, 0) h, cell_of_row W g _ _ _ (0, 0) h, cell_of_row W g _ _ _ (0, 0) h]
  rcases (show i = 0 ∨ i = 1 ∨ i = 2 ∨ i = 3 by omega) with rfl | rfl | rfl | rfl <;> exact ⟨rfl, rfl, rfl⟩
set_option maxHeartbeats 8000000 in
set_option maxRecDepth 100000 in
theorem awake12_any (B : Nat) (w : World) (he : EN B w) :
    Calls Tryz.prog 7 #[] w fun e w' => e = .returned (.bool true) ∧ Below w.heap.size w w' := by
  obtain ⟨P0, hP0⟩ : ∃ P, startN = P := ⟨_, rfl⟩
  have hk0 : knP 0 = P0 := hP0
  have MS := Lib.hid (fun W => rStart_any W)
  rw [hP0] at MS
  obtain ⟨X0, hX0⟩ : ∃ X, X = (pc P0).toArray := ⟨_, rfl⟩
  rw [← hX0] at MS
  have HX0 := Lib.hid hX0
  have HK0 := Lib.hid hk0
  have MW := Lib.hid (fun W (h : EN B W) g (hr : W.heap[g]? = some (.cells X0 30 (0, 0))) => new_any12 B (some ⟨g, 0, none⟩) 1 1 (fun _ => P0) (fun i hi => by rw [← hk0]; exact kn_in (by omega)) (by omega) W h (.inr ⟨g, 0, rfl, (Array.getElem?_eq_some_iff.1 hr).1, fun i hi j v hv => by
    obtain rfl : i = 0 := by omega
    rw [hX0] at hr
    exact (PB.of_block hr).range j v (by simpa using hv)⟩))
  have MP := Lib.hid (fun i (hi : i < 4) b mb q W (h : AKn B b mb q i w W) => show Calls Tryz.prog 14 #[.pointer (some ⟨b, 0, none⟩), .agg (pc (knP (i + 1))).toArray] W fun e w' => e = .returned (.int .i64 (knC i)) ∧ BW w' b mb (txK (i + 1)) ∧ Two b mb W w' from by
    have hc := kn_count i hi
    refine (put_any12 B b mb (txK i) (knP (i + 1)) (kn_in (by omega)) (by rw [txK_len]; omega) W h.k h.e).mono ?_
    rintro e w' ⟨rfl, h1, h2⟩
    refine ⟨q_i ?_, h1, h2⟩
    rw [hc]
    unfold knC
    rcases (show i = 0 ∨ i = 1 ∨ i = 2 ∨ i = 3 by omega) with rfl | rfl | rfl | rfl <;> rfl)
  have ML := Lib.hid (fun i (hi : i < 4) W p c (hr : Reads3 W.heap.size W p 1 (fun _ => knF i) (fun _ => knT i) (fun _ => 0)) => show Calls Tryz.prog 28 #[.agg (pc (knP i)).toArray, .slice p 1 c] W fun e w' => e = .returned (.tuple #[.agg (pc (knP (i + 1))).toArray, .int .i64 (plE (knP i) (fun _ => knF i) (fun _ => knT i) (fun _ => 0) 1)]) ∧ Below W.heap.size W w' from by
    have h := rPlay10_any (knP i) (fun _ => knF i) (fun _ => knT i) (fun _ => 0) p 1 c (by omega) W hr
    rwa [kn_step i hi] at h)
  have MM := Lib.hid (fun b mb q W (h : AK B b mb q 4 w W) => most_any12 b mb (txK 4) W h.k)
  have MQ := Lib.hid (fun b mb q W (h : AK B b mb q 4 w W) => many_any B b mb (txK 4) P0 (by rw [← hk0]; exact kn_in (by omega)) W h.k h.e)
  rw [kn_most] at MM
  rw [← hk0, kn_many, hk0, ← hX0] at MQ
  have HE := Lib.hid he
  have HB := Lib.hid he.k
  clear hX0 hk0 hP0 he
  go_enter Tryz.func7, Tryz.ntmps7
  go_wp2_with fail
  refine (MS.out _).mono ?_
  rintro e w1 ⟨rfl, hb⟩
  have HB1 := Lib.hid hb
  clear hb
  dsimp only
  refine list_go (by assumption) ?_
  refine wpList_newP X0 P0 HX0.out (by rfl) (by rfl) (fun W2 hp hb hsz => ?_)
  have HP := Lib.hid hp
  have HB2 := Lib.hid (HB1.out.trans (hb.mono HB1.out.size))
  have HQ := Lib.hid (show w.heap.size ≤ w1.heap.size from HB1.out.size)
  clear hp hb hsz HB1
  generalize w1.heap.size = q at *
  show Exit.then _ _ Exit.normal _ _
  go_upto_region 2 with (fail)
  refine wp_region_lit ?_
  refine wpList_pos (by rfl) _ (by rfl) q P0 X0 HX0.out (by rfl) HP.out ?_
  refine wpList_plain rfl (fun K hK => ?_)
  refine wp_sliceP 1 _ rfl [X0] (fun X hx => by rw [List.mem_singleton.1 hx, HX0.out]; exact pc_size P0) rfl (by omega) (by omega) (by rfl) ?_
  refine hK _ _ ?_
  clear hK K
  rw [show ([X0].flatMap fun X => X.toList).toArray = X0 by simp]
  have HR := Lib.hid (show (W2.alloc (.cells X0 30)).heap[W2.heap.size]? = some (.cells X0 30 (0, 0)) from sl_at rfl)
  have HP2 := Lib.hid (HP.out.go (below_new (.cells X0 30)))
  have HB3 := Lib.hid (HB2.out.alloc HB2.out.size (.cells X0 30))
  clear HP HB2
  generalize W2.alloc (.cells X0 30) = W3 at *
  generalize W2.heap.size = g at *
  go_wp2_with fail
  refine (MW.out W3 (HE.out.on (HB3.out.mono HB.out)) g HR.out).mono ?_
  rintro e w4 ⟨b, mb, rfl, hn⟩
  have HA := Lib.hid (show AK B b mb q 0 w w4 from
    ⟨by have := hn.k; rwa [show txN (fun _ => P0) 1 = txK 0 by unfold txN txN txK; rw [HK0.out]] at this, by rw [HK0.out]; exact HP2.out.go hn.bl, HB3.out.trans (hn.bl.mono HB3.out.size), hn.e, HQ.out, Nat.le_trans HB3.out.size hn.hb, Nat.le_trans HB3.out.size hn.hm,
      by have := HP2.out.lt; have := hn.hb; omega, by have := HP2.out.lt; have := hn.hm; omega⟩)
  clear hn HP2 HB3 HR HQ MW
  dsimp only
  refine list_go (by assumption) ?_
  go_wp2
  go_loopw [3] (fun x wr => ∃ i : Nat, i ≤ 4 ∧ x = .int .i64 (i : Int) ∧ AK B b mb q i w wr) (fun x _ => 4 - (intOf x).toNat)
  case atStart => exact ⟨0, Nat.zero_le _, rfl, HA.out⟩
  case round =>
    clear HA
    obtain ⟨i, hi, rfl, ha⟩ := hrel
    have HA := Lib.hid ha
    clear ha
    by_cases hlt : i < 4
    · obtain ⟨j, hj⟩ : ∃ j, i = j := ⟨_, rfl⟩
      have hjl : j < 4 := by omega
      rw [hj] at HA
      have MP1 := Lib.hid (fun W h => MP.out j hjl b mb q W h)
      have ML1 := Lib.hid (fun W p c h => ML.out j hjl W p c h)
      have MR1 := Lib.hid (fun W g o h ho => kn_reads j hjl W g o h ho)
      have HTN := Lib.hid (fun W (h : AK B b mb q j w W) => h.turn HB.out)
      have HJ := Lib.hid hj
      obtain ⟨c, hc⟩ : ∃ c, knC j = c := ⟨_, rfl⟩
      have HC := Lib.hid (show c = knC i by rw [hj, hc])
      rw [hc] at MP1
      obtain ⟨X, hX⟩ : ∃ X, X = (pc (knP j)).toArray := ⟨_, rfl⟩
      obtain ⟨Y, hY⟩ : ∃ X, X = (pc (knP (j + 1))).toArray := ⟨_, rfl⟩
      rw [← hX, ← hY] at ML1
      rw [← hY] at MP1
      have HX := Lib.hid hX
      have HY := Lib.hid hY
      have HYL := Lib.hid (show Y.toList = pc (knP (j + 1)) by rw [hY])
      generalize plE (knP j) (fun _ => knF j) (fun _ => knT j) (fun _ => 0) 1 = er at *
      clear hX hY hc hj hjl
      rcases (show i = 0 ∨ i = 1 ∨ i = 2 ∨ i = 3 by omega) with rfl | rfl | rfl | rfl
      all_goals
        first | (obtain rfl : c = 1 := HC.out) | (obtain rfl : c = 2 := HC.out)
        clear HC
        have v1 : IntKind.i64.wrap 1 = 1 := by decide
        have v2 : IntKind.i64.wrap 2 = 2 := by decide
        have v3 : IntKind.i64.wrap 3 = 3 := by decide
        have v4 : IntKind.i64.wrap 4 = 4 := by decide
        go_upto_region 7 with (fail)
        refine forget_B (fun W => AK B b mb q j w W ∧ W.heap[wr.heap.size]? = some (.cells knRow 52 (0, 0))) ⟨HA.out.go (below_new _), sl_at rfl⟩ ?_
        clear HA
        intro W1 h1
        have HA := Lib.hid h1
        clear h1
        generalize wr.heap.size = rb at *
        refine wp_region_noPanic ?_
        refine wp_region_start (n := 11) (l := #[ff, ff, ff, ff, ff, ff, ff, ff, ff, ff, ff]) (S := (fun W => True)) (by kernel_rfl) rfl (by kernel_rfl) (by trivial) (fun hHeld => ?_)
        replace HA := Lib.hid (And.intro (HA.out.1.go (Below.refl W1.heap.size W1).drew) (sl_go HA.out.2 (Below.refl W1.heap.size W1).drew))
        generalize W1.drew = V at *
        refine tq (i := 1) (d := some 20) rfl rfl ?_
        try simp only [aP, sA, sZ, sS]
        refine tq (i := 2) (d := some 21) rfl rfl ?_
        try simp only [aP, sA, sZ, sS]
        refine tq (i := 3) (d := some 22) rfl rfl ?_
        try simp only [aP, sA, sZ, sS]
        refine tq (i := 4) (d := some 23) rfl rfl ?_
        try simp only [aP, sA, sZ, sS]
        refine tq (i := 5) (d := some 24) rfl rfl ?_
        try simp only [aP, sA, sZ, sS]
        refine og (i := 0) rfl (by kernel_rfl) (fun K hK => ?_)
        rw [if_pos (by rfl)]
        refine wp_load_mid 30 _ rfl q 0 rfl (pc (knP j)) _ HA.out.1.p.range Tryz.underlying30 rfl (by rw [infoPos, pc_len]) ?_
        rw [← HX.out]
        refine hK.out _ _ (by trivial) (fun hHeld => ?_)
        clear hK K
        try simp only [aP, sA, sZ, sS]
        refine og (i := 6) rfl (by kernel_rfl) (fun K hK => ?_)
        go_simp
        refine (ML1.out _ _ _ (MR1.out _ _ _ HA.out.2 (by rw [← HJ.out]))).mono ?_
        rintro e V ⟨rfl, hb⟩
        replace HA := Lib.hid (And.intro (HA.out.1.go hb) (sl_go HA.out.2 hb))
        clear hb
        dsimp only
        refine hK.out _ _ (by trivial) (fun hHeld => ?_)
        clear hK K
        try simp only [aP, sA, sZ, sS]
        refine tq (i := 7) (d := some 18) rfl rfl ?_
        try simp only [aP, sA, sZ, sS]
        refine tq (i := 8) (d := some 26) rfl rfl ?_
        try simp only [aP, sA, sZ, sS]
        refine tq (i := 9) (d := some 27) rfl rfl ?_
        try simp only [aP, sA, sZ, sS]
        refine og (i := 10) rfl (by kernel_rfl) (fun K hK => ?_)
        rw [if_pos (by rfl)]
        refine wp_store_mid 30 _ _ rfl q 0 Y rfl rfl (by rw [HY.out, pc_size]; exact HA.out.1.p.there) (by rw [infoPos, HY.out, pc_size]) (by rw [HY.out]; exact pc_one _) ?_
        rw [HYL.out]
        have HN := Lib.hid (HTN.out _ HA.out.1)
        generalize V.setCells q 0 (pc (knP (j + 1))) = V2 at HN ⊢
        refine hK.out _ _ (by trivial) (fun hHeld => ?_)
        clear hK K
        try simp only [aP, sA, sZ, sS]
        refine wpAnyH_done (by kernel_rfl) ?_ _
        refine NoPanic.normal ?_
        clear hHeld
        clear ML1 MR1 HTN
        go_wp2_with (first | refine wpList_pos (by rfl) _ (by rfl) q (knP (j + 1)) Y HY.out (by rfl) HN.out.p ?_ | fail)
        refine (MP1.out _ HN.out).mono ?_
        rintro e w5 ⟨rfl, hk, h2⟩
        have HA2 := Lib.hid (HN.out.put hk h2 HB.out)
        clear hk h2 HN MP1
        dsimp only
        refine list_go (by assumption) ?_
        go_wp2
        go_roundw
        case rel => exact ⟨j + 1, by have := HJ.out; omega, by rw [← HJ.out]; go_num, HA2.out⟩
        case measure => simp [intOf]
    · obtain rfl : i = 4 := by omega
      go_wp2_with fail
      refine (MM.out b mb q _ HA.out).mono ?_
      rintro e w5 ⟨rfl, rfl⟩
      dsimp only
      refine list_go (by assumption) ?_
      go_wp2_with fail
      refine (MS.out _).mono ?_
      rintro e w6 ⟨rfl, hb⟩
      have HA6 := Lib.hid (HA.out.go hb)
      clear hb HA
      dsimp only
      refine list_go (by assumption) ?_
      go_wp2_with fail
      refine (MQ.out b mb q _ HA6.out).mono ?_
      rintro e w7 ⟨rfl, hb7⟩
      have HB7 := Lib.hid (HA6.out.bl.trans (hb7.mono HA6.out.bl.size))
      clear hb7
      dsimp only
      refine list_go (by assumption) ?_
      go_wp2
      go_ret
      exact ⟨rfl, HB7.out⟩
end Go.Proofs.YtcdnakbdajbfoaaGreatDoor
