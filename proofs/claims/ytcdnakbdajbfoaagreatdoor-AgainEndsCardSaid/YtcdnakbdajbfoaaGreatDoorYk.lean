/-
  AgainNever: the run; what stands.
-/
import Derived.Test.YtcdnakbdajbfoaaGreatDoorYi
import Derived.Test.YtcdnakbdajbfoaaGreatDoorWc
namespace Go.Proofs.YtcdnakbdajbfoaaGreatDoor
open Go.RowKit Go.Sort Go.Maps
set_option linter.unusedSimpArgs false
set_option linter.unusedVariables false
set_option maxRecDepth 20000

def cN (Ps : Nat → Nat → Int) (Q : Nat → Int) : Nat → Nat
  | 0 => 0
  | n + 1 => cN Ps Q n + if samB (Ps n) Q then 1 else 0
theorem cN_le (Ps : Nat → Nat → Int) (Q : Nat → Int) : ∀ n, cN Ps Q n ≤ n
  | 0 => Nat.le_refl _
  | n + 1 => by
    have := cN_le Ps Q n
    unfold cN
    split <;> omega
theorem cnt_txN (Ps : Nat → Nat → Int) (Q : Nat → Int) : ∀ n, cntT (txN Ps n) (kyB Q) = cN Ps Q n
  | 0 => rfl
  | n + 1 => by
    have ih := cnt_txN Ps Q n
    unfold txN cN
    cases e : samB (Ps n) Q
    · rw [cntT_other _ (fun h => by rw [(kyB_iff (Ps n) Q).1 h.symm] at e; cases e), ih]
      simp
    · rw [(kyB_iff (Ps n) Q).2 e, cntT_same, ih]
      simp
structure RN (Ps : Nat → Nat → Int) (i f : Nat) : Prop where
  pos : posB (Ps i) = true
  mon : ∀ k, k ≤ i → psiN (Ps i) ≤ psiN (Ps k)
  str : ∀ k, k < f → psiN (Ps i) < psiN (Ps k)
  low : f ≤ i
def putP (Ps : Nat → Nat → Int) (i : Nat) (Q : Nat → Int) : Nat → Nat → Int := fun j => if j = i then Q else Ps j
theorem putP_at (Ps : Nat → Nat → Int) (i : Nat) (Q : Nat → Int) : putP Ps i Q i = Q := by unfold putP; rw [if_pos rfl]
theorem putP_off (Ps : Nat → Nat → Int) (i : Nat) (Q : Nat → Int) {j : Nat} (h : j ≠ i) : putP Ps i Q j = Ps j := by unfold putP; rw [if_neg h]
def flagB (P Q : Nat → Int) : Bool := Q 131 == 0 || Q 129 != P 129
theorem RN.next {Ps : Nat → Nat → Int} {i f : Nat} (h : RN Ps i f) (s t k : Int) (hl : legB (Ps i) s t k = true) :
    posB (nxP (Ps i) s.toNat t.toNat k) = true ∧ plP (Ps i) (fun _ => s) (fun _ => t) (fun _ => k) 1 = nxP (Ps i) s.toNat t.toNat k ∧ plE (Ps i) (fun _ => s) (fun _ => t) (fun _ => k) 1 = 0 ∧
    RN (putP Ps (i + 1) (nxP (Ps i) s.toNat t.toNat k)) (i + 1) (if flagB (Ps i) (nxP (Ps i) s.toNat t.toNat k) then i + 1 else f) ∧
    ∀ j, j ≤ i → j < (if flagB (Ps i) (nxP (Ps i) s.toNat t.toNat k) then i + 1 else f) → samB (Ps j) (nxP (Ps i) s.toNat t.toNat k) = false := by
  have hmem := (legB_iff _ _ _ _).1 hl
  obtain ⟨a, b, hg⟩ := leg_ok (Ps i) h.pos _ hmem
  have h1 := hg.x.mv.f
  have h2 := hg.x.mv.t
  have hpos := hg.pos
  have hnx := hg.nx
  simp only at h1 h2 hpos hnx
  obtain ⟨hp1, hp2⟩ := pl_one12 (Ps i) h.pos s t k hl
  obtain ⟨g1, g2⟩ := psi_next (Ps i) h.pos _ hmem
  simp only at g1 g2
  have hq : posB (nxP (Ps i) s.toNat t.toNat k) = true := by
    rw [h1, h2, Int.toNat_natCast, Int.toNat_natCast, hnx]
    exact hpos
  generalize nxP (Ps i) s.toNat t.toNat k = Q at *
  have hlow := h.low
  have hst : ∀ j, j ≤ i → j < (if flagB (Ps i) Q then i + 1 else f) → psiN Q < psiN (Ps j) := fun j hj hf => by
    have hm := h.mon j hj
    cases e : flagB (Ps i) Q
    · rw [e] at hf
      have := h.str j hf
      omega
    · have : psiN Q < psiN (Ps i) := g2 (by
        unfold flagB at e
        simp only [Bool.or_eq_true, beq_iff_eq, bne_iff_ne, ne_eq] at e
        exact e)
      omega
  refine ⟨hq, hp1, hp2, ⟨by rw [putP_at]; exact hq, fun j hj => ?_, fun j hj => ?_, by split <;> omega⟩, fun j hj hf => ?_⟩
  · rw [putP_at]
    by_cases e : j = i + 1
    · subst e; rw [putP_at]; exact Nat.le_refl _
    · rw [putP_off _ _ _ e]
      have := h.mon j (by omega)
      omega
  · rw [putP_at]
    have hji : j ≤ i := by
      cases e : flagB (Ps i) Q <;> rw [e] at hj <;> simp at hj <;> omega
    rw [putP_off _ _ _ (by omega)]
    exact hst j hji hj
  · cases e : samB (Ps j) Q
    · rfl
    · have h1 := psi_like ((samB_iff _ _).1 e).1
      have := hst j hj hf
      omega
def posL (Ps : Nat → Nat → Int) : Nat → List Value
  | 0 => []
  | n + 1 => posL Ps n ++ pc (Ps n)
theorem posL_len (Ps : Nat → Nat → Int) : ∀ n, (posL Ps n).length = n * 133
  | 0 => rfl
  | n + 1 => by unfold posL; rw [List.length_append, posL_len Ps n, pc_len]; omega
theorem posL_at (Ps : Nat → Nat → Int) : ∀ n i j, i < n → j < 133 → (posL Ps n)[i * 133 + j]? = (pc (Ps i))[j]?
  | 0, i, j, h, _ => absurd h (Nat.not_lt_zero _)
  | n + 1, i, j, h, hj => by
    unfold posL
    by_cases e : i = n
    · subst e
      rw [List.getElem?_append_right (by rw [posL_len]; omega), posL_len, Nat.add_sub_cancel_left]
    · rw [List.getElem?_append_left (by rw [posL_len]; omega)]
      exact posL_at Ps n i j (by omega) hj
theorem posL_congr {Ps Qs : Nat → Nat → Int} : ∀ n, (∀ j, j < n → Ps j = Qs j) → posL Ps n = posL Qs n
  | 0, _ => rfl
  | n + 1, h => by unfold posL; rw [h n (by omega), posL_congr n fun j hj => h j (by omega)]
theorem own_at {W : World} {base n : Nat} {Ps : Nat → Nat → Int} {sv : Value} (h : W.ownsRow base 30 133 sv n (posL Ps n)) (hn : 0 < n) : ∃ g cap, sv = .slice (some ⟨g, 0, none⟩) n cap ∧ base ≤ g ∧ ∀ i, i < n → W.rangeAt g (i * 133) (pc (Ps i)) := by
  rcases h.2 with ⟨_, h0⟩ | ⟨g, cap, cur, rfl, hb, hg, _, _, _, _⟩
  · omega
  · refine ⟨g, cap, rfl, hb, fun i hi j v hv => ?_⟩
    have hj : j < 133 := by have := (List.getElem?_eq_some_iff.1 hv).1; rwa [pc_len] at this
    have := h.cells (g := g) rfl (i * 133 + j) v (by rw [posL_at Ps n i j hi hj]; exact hv)
    rw [Go.WideShapes.add_plain, Nat.zero_add] at this
    exact this
structure NL (B b mb : Nat) (T : List (List UInt8)) (sv : Value) (Ps : Nat → Nat → Int) (i : Nat) (ap : Option Addr) (ln : Nat) (g : Nat → Int) (w W : World) : Prop where
  p : PB W w.heap.size (Ps i)
  k : BW W b mb T
  own : W.ownsRow (w.heap.size + 1) 30 133 sv (i + 1) (posL Ps (i + 1))
  r : Reads w.heap.size W ap ln (fun i => .int .i64 (g i))
  bl : Below w.heap.size w W
  e : EN B W
  hb : w.heap.size + 1 ≤ b
  hm : w.heap.size + 1 ≤ mb
  hB : B ≤ w.heap.size
theorem NL.go {B b mb : Nat} {T : List (List UInt8)} {sv : Value} {Ps : Nat → Nat → Int} {i : Nat} {ap : Option Addr} {ln : Nat} {g : Nat → Int} {w W W' : World} (h : NL B b mb T sv Ps i ap ln g w W) (gb : Below W.heap.size W W') : NL B b mb T sv Ps i ap ln g w W' :=
  ⟨h.p.go gb, h.k.go gb, owns_below_ h.own gb, h.r.below (gb.mono h.bl.size), h.bl.trans (gb.mono h.bl.size), h.e.go gb, h.hb, h.hm, h.hB⟩
theorem NL.at {B b mb ab cap k : Nat} {T : List (List UInt8)} {Ps : Nat → Nat → Int} {i : Nat} {ap : Option Addr} {ln : Nat} {g : Nat → Int} {w W : World} (h : NL B b mb T (.slice (some ⟨ab, 0, none⟩) (i + 1) cap) Ps i ap ln g w W) (hk : k < i + 1) : W.rangeAt ab (k * 133) (pc (Ps k)) := by
  obtain ⟨g', c, e, _, h2⟩ := own_at h.own (by omega)
  cases e
  exact h2 k hk
theorem NL.nob {B b mb : Nat} {T : List (List UInt8)} {sv : Value} {Ps : Nat → Nat → Int} {i : Nat} {ap : Option Addr} {ln : Nat} {g : Nat → Int} {w W : World} (h : NL B b mb T sv Ps i ap ln g w W) : ∀ q, sv.ownBlock = some q → q ≠ b ∧ q ≠ mb := by
  intro q hq
  rcases h.own.2 with ⟨rfl, _⟩ | ⟨g', cap, cur, rfl, _, hc, _⟩
  · cases hq
  · simp [Value.ownBlock] at hq
    subst hq
    constructor
    · intro e
      have := h.k.c
      rw [← e, hc] at this
      simp at this
    · intro e
      obtain ⟨es, ep, q, _⟩ := h.k.m
      rw [← e, hc] at q
      cases q
theorem owns_two {b mb base n k : Nat} {e : TypeId} {w w' : World} {v : Value} {xs : List Value} (h : w.ownsRow base e k v n xs) (g : Two b mb w w') (hne : ∀ q, v.ownBlock = some q → q ≠ b ∧ q ≠ mb) : w'.ownsRow base e k v n xs := by
  refine ⟨h.1, ?_⟩
  rcases h.2 with h2 | ⟨q, cap, cur, rfl, h2, h3, h4⟩
  · exact .inl h2
  · exact .inr ⟨q, cap, cur, rfl, h2, g.at h3 (hne q rfl).1 (hne q rfl).2, h4⟩
theorem NL.two {B b mb : Nat} {T T' : List (List UInt8)} {sv : Value} {Ps : Nat → Nat → Int} {i : Nat} {ap : Option Addr} {ln : Nat} {g : Nat → Int} {w W W' : World} (h : NL B b mb T sv Ps i ap ln g w W) (hk : BW W' b mb T') (t : Two b mb W W') : NL B b mb T' sv Ps i ap ln g w W' := by
  have hb := h.hb
  have hm := h.hm
  have h1 := t.below (Below.refl w.heap.size W) (by omega) (by omega) h.bl.size
  exact ⟨t.pb h.p (by omega) (by omega), hk, owns_two h.own t h.nob, h.r.below h1, h.bl.trans h1, h.e.on (h1.mono h.hB), h.hb, h.hm, h.hB⟩
theorem BW.two {W W' : World} {b mb b2 c2 : Nat} {T : List (List UInt8)} (h : BW W b2 c2 T) (g : Two b mb W W') (h1 : b2 ≠ b) (h2 : b2 ≠ mb) (h3 : c2 ≠ b) (h4 : c2 ≠ mb) : BW W' b2 c2 T :=
  ⟨g.at h.c h1 h2, by
    obtain ⟨es, clock, q, r⟩ := h.m
    exact ⟨es, clock, g.at q h3 h4, r⟩, h.s⟩
theorem infoPosC : ((Tryz.prog.info? 30).bind (·.zero)).map (·.cells.size) = some 133 := by kernel_rfl
theorem infoPosB : (Tryz.prog.info? 30).map (·.bytes) = some 1064 := by kernel_rfl
theorem infoPosAll : ∃ ie, Tryz.prog.info? 30 = some ie ∧ (∃ z, ie.zero = some z ∧ z.cells.size = 133) ∧ ie.size = 133 ∧ ie.bytes = 1064 := by
  cases hie : Tryz.prog.info? 30 with
  | none => have := infoPos; rw [hie] at this; cases this
  | some ie =>
    have h1 := infoPos
    have h2 := infoPosC
    have h3 := infoPosB
    simp only [hie, Option.map_some, Option.some.injEq, Option.bind_some] at h1 h2 h3
    obtain ⟨z, hz, hs⟩ := Option.map_eq_some_iff.1 h2
    exact ⟨ie, rfl, ⟨z, hz, hs⟩, h1, h3⟩
end Go.Proofs.YtcdnakbdajbfoaaGreatDoor
