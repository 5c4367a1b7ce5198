/-
  Contract: the chapter's example of a tag under a key is answered.
-/
import Derived.Test.YthhjieagdkimfaaDoorMacOf
import Derived.Test.YthhjieagdkimfaaDoorJefe
namespace Go.Proofs.YthhjieagdkimfaaDoor
open Go.RowKit
set_option linter.unusedVariables false
set_option linter.unusedSimpArgs false

def jefC : Array Value := #[.int .u8 74, .int .u8 101, .int .u8 102, .int .u8 101]
def txtA : Array Value := #[.int .u8 119, .int .u8 104, .int .u8 97, .int .u8 116, .int .u8 32, .int .u8 100, .int .u8 111, .int .u8 32, .int .u8 121, .int .u8 97, .int .u8 32, .int .u8 119, .int .u8 97, .int .u8 110, .int .u8 116, .int .u8 32]
def txtZ : Array Value := #[.int .u8 102, .int .u8 111, .int .u8 114, .int .u8 32, .int .u8 110, .int .u8 111, .int .u8 116, .int .u8 104, .int .u8 105, .int .u8 110, .int .u8 103, .int .u8 63]
theorem jefC_at : ∀ i, i < 4 → jefC[i]? = some (.int .u8 (ub (jefB i)))
  | 0, _ => by rfl
  | 1, _ => by rfl
  | 2, _ => by rfl
  | 3, _ => by rfl
theorem txtA_list : txtA = ((List.range 16).map fun i => Value.int .u8 (ub (txtB i))).toArray := by kernel_rfl
theorem txtZ_list : txtZ = ((List.range 12).map fun i => Value.int .u8 (ub (txtB (16 + i)))).toArray := by kernel_rfl
theorem txtA_at (i : Nat) (hi : i < 16) : txtA[i]? = some (.int .u8 (ub (txtB i))) := by rw [txtA_list]; simp [hi]
theorem txtZ_at (i : Nat) (hi : i < 12) : txtZ[i]? = some (.int .u8 (ub (txtB (16 + i)))) := by rw [txtZ_list]; simp [hi]

set_option maxHeartbeats 2000000 in
set_option maxRecDepth 100000 in
theorem awake3 (B : Nat) (w : World) (hk : Kc B w) (hB : B ≤ w.heap.size) :
    Calls Tryd.prog 25 #[] w fun e w' => e = .returned (.bool true) ∧ Below w.heap.size w w' := by
  have HK := Lib.hid hk
  clear hk
  have cv1 := Lib.run_convert_bytes_const (P := Tryd.prog) w 27 5 jefC 4 4 Tryd.underlying27 Tryd.underlying5
  have cv2 := Lib.run_convert_bytes_const (P := Tryd.prog) (w.alloc (.cells jefC 5 (4, 5))) 27 5 txtA 16 16 Tryd.underlying27 Tryd.underlying5
  have cv3 := Lib.run_convert_bytes_const (P := Tryd.prog) ((w.alloc (.cells jefC 5 (4, 5))).alloc (.cells txtA 5 (16, 17))) 27 5 txtZ 12 12 Tryd.underlying27 Tryd.underlying5
  rw [show jefC.size = 4 from rfl] at cv1
  rw [show txtA.size = 16 from rfl] at cv2
  rw [show txtZ.size = 12 from rfl] at cv3
  simp only [World.size_alloc] at cv2 cv3
  go_enter Tryd.func25, Tryd.ntmps25
  go_upto_region 1 with (fail)
  refine wp_region_lit ?_
  refine wpList_plain rfl (fun K hK => ?_)
  go_simp
  refine hK _ _ ?_
  clear hK K
  show wpList _ _ _ _ _ (w.alloc (.cells jefC 5))
  refine wpList_plain rfl (fun K hK => ?_)
  go_simp
  refine hK _ _ ?_
  clear hK K
  refine wpList_plain rfl (fun K hK => ?_)
  go_simp
  refine hK _ _ ?_
  clear hK K
  show wpList _ _ _ _ _ ((w.alloc (.cells jefC 5 (4, 5))).alloc (.cells txtA 5))
  refine wpList_plain rfl (fun K hK => ?_)
  go_simp
  refine hK _ _ ?_
  clear hK K
  refine wpList_plain rfl (fun K hK => ?_)
  go_simp
  refine hK _ _ ?_
  clear hK K
  show wpList _ _ _ _ _ (((w.alloc (.cells jefC 5 (4, 5))).alloc (.cells txtA 5 (16, 17))).alloc (.cells txtZ 5))
  refine wpList_plain rfl (fun K hK => ?_)
  go_simp
  refine hK _ _ ?_
  clear hK K
  clear cv1 cv2 cv3
  have hbel : Below w.heap.size w (((w.alloc (.cells jefC 5 (4, 5))).alloc (.cells txtA 5 (16, 17))).alloc (.cells txtZ 5 (12, 13))) := (((Below.refl _ _).alloc (Nat.le_refl _) _).alloc (by simp) _).alloc (by simp; omega) _
  have h1 : (((w.alloc (.cells jefC 5 (4, 5))).alloc (.cells txtA 5 (16, 17))).alloc (.cells txtZ 5 (12, 13))).heap[w.heap.size]? = some (.cells jefC 5 (4, 5)) := laid_old (laid_old (laid_at rfl))
  have h2 : (((w.alloc (.cells jefC 5 (4, 5))).alloc (.cells txtA 5 (16, 17))).alloc (.cells txtZ 5 (12, 13))).heap[w.heap.size + 1]? = some (.cells txtA 5 (16, 17)) := laid_old (laid_at (by simp))
  have h3 : (((w.alloc (.cells jefC 5 (4, 5))).alloc (.cells txtA 5 (16, 17))).alloc (.cells txtZ 5 (12, 13))).heap[w.heap.size + 1 + 1]? = some (.cells txtZ 5 (12, 13)) := laid_at (by simp)
  have hz : w.heap.size + 3 = (((w.alloc (.cells jefC 5 (4, 5))).alloc (.cells txtA 5 (16, 17))).alloc (.cells txtZ 5 (12, 13))).heap.size := by simp
  generalize ((w.alloc (.cells jefC 5 (4, 5))).alloc (.cells txtA 5 (16, 17))).alloc (.cells txtZ 5 (12, 13)) = W3 at hbel h1 h2 h3 hz ⊢
  refine wpList_plain rfl (fun K hK => ?_)
  go_simp
  refine hK _ _ ?_
  clear hK K
  have hb4 : Below W3.heap.size W3 (W3.alloc (.cells #[.slice (some ⟨w.heap.size + 1, 0, none⟩) 16 16, .slice (some ⟨w.heap.size + 1 + 1, 0, none⟩) 12 12] 27)) := (Below.refl _ _).alloc (Nat.le_refl _) _
  have h1' := laid_old (o := .cells #[.slice (some ⟨w.heap.size + 1, 0, none⟩) 16 16, .slice (some ⟨w.heap.size + 1 + 1, 0, none⟩) 12 12] 27) h1
  have h2' := laid_old (o := .cells #[.slice (some ⟨w.heap.size + 1, 0, none⟩) 16 16, .slice (some ⟨w.heap.size + 1 + 1, 0, none⟩) 12 12] 27) h2
  have h3' := laid_old (o := .cells #[.slice (some ⟨w.heap.size + 1, 0, none⟩) 16 16, .slice (some ⟨w.heap.size + 1 + 1, 0, none⟩) 12 12] 27) h3
  have h4' : (W3.alloc (.cells #[.slice (some ⟨w.heap.size + 1, 0, none⟩) 16 16, .slice (some ⟨w.heap.size + 1 + 1, 0, none⟩) 12 12] 27)).heap[W3.heap.size]? = some _ := laid_at rfl
  have hz4 : (W3.alloc (.cells #[.slice (some ⟨w.heap.size + 1, 0, none⟩) 16 16, .slice (some ⟨w.heap.size + 1 + 1, 0, none⟩) 12 12] 27)).heap.size = W3.heap.size + 1 := by simp
  generalize W3.alloc (.cells #[.slice (some ⟨w.heap.size + 1, 0, none⟩) 16 16, .slice (some ⟨w.heap.size + 1 + 1, 0, none⟩) 12 12] 27) = W4 at hb4 h1' h2' h3' h4' hz4 ⊢
  have hbel4 := hbel.trans (hb4.mono (by omega))
  have hof := macOf_any B W4 (some ⟨w.heap.size, 0, none⟩) 4 4 jefB txtB (some ⟨W3.heap.size, 0, none⟩) 2 2 _ _ _ _ (HK.out.below (hbel4.mono hB)) (by omega) (by omega) (by omega) (by decide) (reads_at h1' jefC_at)
    (RI.two (f := txtB) (f2 := fun j => txtB (16 + j)) h4' (Nat.le_refl 16) (by decide) (Nat.le_refl 12) (by decide) (reads_at h2' txtA_at) (reads_at h3' txtZ_at)) (by omega) (by decide) (by omega) (by rw [pos_two]; omega) (fun i hi j hj => by
    match i, hi with
    | 0, _ => simp [fst3, pos]
    | 1, _ => simp [fst3, pos])
  rw [pos_two] at hof
  refine wpList_plain rfl (fun K hK => ?_)
  go_simp
  refine hof.mono ?_
  clear hof h1 h2 h3 h1' h2' h3' h4'
  rintro e W5 ⟨rfl, hb5⟩
  dsimp only
  refine hK _ _ ?_
  clear hK K
  have HB5 := Lib.hid (hbel4.trans (hb5.mono (by omega)))
  clear hb5 hbel4 hb4 hbel
  obtain ⟨s, hs⟩ : ∃ s, s = hmac jefB 4 txtB (16 + 12) := ⟨_, rfl⟩
  rw [← hs]
  have hb : ∀ i, i < 32 → s i = outL.getD i 0#8 := fun i hi => by rw [hs]; exact jefe (fun _ _ => rfl) i hi
  clear hs
  refine wpList_plain rfl (fun K hK => ?_)
  go_simp
  refine hK _ _ ?_
  clear hK K
  have ht0 : BT (W5.alloc (.cells (List.replicate 32 (Value.int .u8 0)).toArray 32)) W5.heap.size 32 (fun _ => 0#8) := BT.of_cells (laid_at rfl) (fun i hi => zero_at 32 i hi)
  refine wpList_store_mid rfl 32 _ _ rfl W5.heap.size 0 (tagC s).toArray rfl rfl (by simpa [tagC_len] using ht0.there 32 (Nat.le_refl _)) (by simp [infoTag, tagC_len]) (tagC_one _) ?_
  rw [List.toList_toArray]
  have ht5 : BT ((W5.alloc (.cells (List.replicate 32 (Value.int .u8 0)).toArray 32)).setCells W5.heap.size 0 (tagC s)) W5.heap.size 32 s := ht0.setFirst 32 (Nat.le_refl _) _ rfl fun j h1 h2 => by omega
  have hg5 : W5.grownBy ((W5.alloc (.cells (List.replicate 32 (Value.int .u8 0)).toArray 32)).setCells W5.heap.size 0 (tagC s)) (some W5.heap.size) := (World.grownBy_alloc W5 _ _).trans (gr_setCells _ _ _)
  show Exit.then _ _ Exit.normal _ ((W5.alloc (.cells (List.replicate 32 (Value.int .u8 0)).toArray 32)).setCells W5.heap.size 0 (tagC s))
  generalize (W5.alloc (.cells (List.replicate 32 (Value.int .u8 0)).toArray 32)).setCells W5.heap.size 0 (tagC s) = W6 at ht5 hg5 ⊢
  have HB6 := Lib.hid (HB5.out.grown hg5 HB5.out.size (by rintro q ⟨⟩; have := HB5.out.size; omega))
  have c0 : W6.cell? ⟨W5.heap.size, 0, none⟩ = some (.int .u8 91) := by rw [ht5.byte 0 (by omega), hb 0 (by omega)]; rfl
  have c1 : W6.cell? ⟨W5.heap.size, 1, none⟩ = some (.int .u8 220) := by rw [ht5.byte 1 (by omega), hb 1 (by omega)]; rfl
  have c2 : W6.cell? ⟨W5.heap.size, 2, none⟩ = some (.int .u8 193) := by rw [ht5.byte 2 (by omega), hb 2 (by omega)]; rfl
  have c3 : W6.cell? ⟨W5.heap.size, 3, none⟩ = some (.int .u8 70) := by rw [ht5.byte 3 (by omega), hb 3 (by omega)]; rfl
  have c4 : W6.cell? ⟨W5.heap.size, 30, none⟩ = some (.int .u8 56) := by rw [ht5.byte 30 (by omega), hb 30 (by omega)]; rfl
  have c5 : W6.cell? ⟨W5.heap.size, 31, none⟩ = some (.int .u8 67) := by rw [ht5.byte 31 (by omega), hb 31 (by omega)]; rfl
  clear ht5 hg5 ht0 hb
  go_wp2
  go_ret
  exact ⟨rfl, HB6.out⟩
end Go.Proofs.YthhjieagdkimfaaDoor
