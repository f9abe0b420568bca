/- Contract of the model's l08Cross: three names out of its lists. -/
import Derived.Test.YtfdfanleigcfpaaPick
import Derived.Test.YtfdfanleigcfpaaItP
namespace Go.Proofs.Ytfdfanleigcfpaa
open Go.ChangeShapes Go.WideShapes Go.ChangeAt Go.RowKit
theorem cells_of_texts {W : World} {g : Nat} {T : List ByteArray} (h : W.heap[g]? = some (.cells (T.map Value.string).toArray 9)) : ∀ (i : Nat) (t : ByteArray), T[i]? = some t → W.cell? ⟨g, i, none⟩ = some (.string t) := fun i t ht => by
  simp [World.cell?, h, ht]
def cT1 : List ByteArray := [⟨#[65, 67, 77, 69]⟩, ⟨#[66, 79, 76, 84]⟩, ⟨#[67, 45, 49]⟩]
def cT2 : List ByteArray := [⟨#[66, 79, 76, 84]⟩, ⟨#[78, 85, 84]⟩, ⟨#[71, 69, 65, 82]⟩, ⟨#[67, 65, 77]⟩, ⟨#[88, 49]⟩]
def cT3 : List ByteArray := [⟨#[66, 79, 76, 84]⟩, ⟨#[78, 85, 84]⟩, ⟨#[71, 69, 65, 82]⟩, ⟨#[66, 45, 49, 48]⟩, ⟨#[66, 45, 50, 48]⟩]
theorem cT_names : (∀ s ∈ cT1, nameB s = true) ∧ (∀ s ∈ cT2, nameB s = true) ∧ (∀ s ∈ cT3, nameB s = true) := by
  refine ⟨?_, ?_, ?_⟩ <;> simp only [cT1, cT2, cT3, List.mem_cons, List.not_mem_nil, or_false] <;> intro s hs
  · rcases hs with rfl | rfl | rfl <;> decide
  · rcases hs with rfl | rfl | rfl | rfl | rfl <;> decide
  · rcases hs with rfl | rfl | rfl | rfl | rfl <;> decide
/-- The source, the answer's box, and lists of texts that lie there. -/
structure SD (B : Nat) (w W : World) (L : List (Nat × List ByteArray)) : Prop where
  src : IsSrc B W
  kp : Keep B w W
  hB : B < w.heap.size
  rb : W.heap[w.heap.size]? = some (.cells #[.string ⟨#[]⟩, .string ⟨#[]⟩, .string ⟨#[]⟩] 25)
  ls : ∀ x ∈ L, B < x.1 ∧ W.heap[x.1]? = some (.cells (x.2.map Value.string).toArray 9)
theorem SD.keep {B : Nat} {w W W' : World} {L : List (Nat × List ByteArray)} (h : SD B w W L) (hk : Keep B W W') (hs : IsSrc B W') : SD B w W' L := by
  have hB := h.hB
  refine ⟨hs, h.kp.trans hk, hB, (hk.block _ (Array.getElem?_eq_some_iff.1 h.rb).1 (by omega)).trans h.rb, fun x hx => ?_⟩
  obtain ⟨h1, h2⟩ := h.ls x hx
  exact ⟨h1, (hk.block _ (Array.getElem?_eq_some_iff.1 h2).1 (by omega)).trans h2⟩
theorem SD.below {B : Nat} {w W W' : World} {L : List (Nat × List ByteArray)} (h : SD B w W L) (hb : Below W.heap.size W W') : SD B w W' L := h.keep (Keep.of_below hb) (h.src.below (hb.mono h.src.lt))
theorem SD.add {B g : Nat} {w W W' : World} {L : List (Nat × List ByteArray)} {T : List ByteArray} (h : SD B w W L) (hg : W.heap.size ≤ g) (hn : W'.heap[g]? = some (.cells (T.map Value.string).toArray 9)) (hb : Below W.heap.size W W') : SD B w W' ((g, T) :: L) := by
  have := h.below hb
  have hB := h.src.lt
  refine ⟨this.src, this.kp, this.hB, this.rb, fun x hx => ?_⟩
  rcases List.mem_cons.1 hx with rfl | hx
  · exact ⟨by show B < g; omega, hn⟩
  · exact this.ls x hx
theorem pick_sd {B g : Nat} {w W : World} {L : List (Nat × List ByteArray)} (T : List ByteArray) (n : Nat) (h : SD B w W L) (hm : (g, T) ∈ L) (hn : T.length = n) (h1 : 1 < n) (h2 : n ≤ 1000) :
    Calls Try.prog 17 #[.pointer (some ⟨B, 0, none⟩), .slice (some ⟨g, 0, none⟩) n n] W fun e w' => ∃ s, e = .returned (.string s) ∧ s ∈ T ∧ SD B w w' L := by
  obtain ⟨q1, q2⟩ := h.ls _ hm
  refine (pick_any B g n n T W h1 h2 hn (by simp only at q1; omega) (cells_of_texts q2) h.src).mono ?_
  rintro e w' ⟨s, he, hs, h3, h4⟩
  exact ⟨s, he, hs, h.keep h4 h3⟩
set_option maxRecDepth 100000 in
set_option maxHeartbeats 2000000 in
theorem l08Cross_any (B : Nat) (w : World) (hS : IsSrc B w) :
    Calls Try.prog 15 #[.pointer (some ⟨B, 0, none⟩)] w fun e w' => ∃ c : Crs, e = .returned (.agg #[.string c.partner, .string c.theirs, .string c.own]) ∧ crsB c = true ∧ IsSrc B w' ∧ Keep B w w' := by
  have hB := hS.lt
  obtain ⟨W0, hW0⟩ : ∃ W0, w.alloc (.cells #[.string ⟨#[]⟩, .string ⟨#[]⟩, .string ⟨#[]⟩] 25) = W0 := ⟨_, rfl⟩
  have hb0 : Below w.heap.size w W0 := by rw [← hW0]; exact (Below.refl _ _).alloc (Nat.le_refl _) _
  have hs0 : W0.heap.size = w.heap.size + 1 := by rw [← hW0]; simp
  have H0 : SD B w W0 [] := ⟨hS.below (hb0.mono hB), Keep.of_below hb0, hB, (by rw [← hW0]; exact World.alloc_heap_new _ _), fun x hx => by cases hx⟩
  have H1 : Hid (SD B w (W0.alloc (.cells #[.string ⟨#[65, 67, 77, 69]⟩, .string ⟨#[66, 79, 76, 84]⟩, .string ⟨#[67, 45, 49]⟩] 9)) [(w.heap.size + 1, cT1)]) := H0.add (T := cT1) (by omega) (by rw [← hs0]; exact World.alloc_heap_new _ _) ((Below.refl _ _).alloc (Nat.le_refl _) _)
  clear hS hb0 H0
  go_enter Try.func15, Try.ntmps15
  go_upto_region 1 with fail
  try rw [hW0]
  clear hW0
  go_wp2_with fail
  refine (pick_sd cT1 3 H1.out (List.mem_singleton.2 rfl) rfl (by omega) (by omega)).mono ?_
  rintro e w1 ⟨s1, rfl, m1, d1⟩
  obtain ⟨g2, hg2⟩ : ∃ g, g = w1.heap.size := ⟨_, rfl⟩
  have H2 : Hid (SD B w (w1.alloc (.cells #[.string ⟨#[66, 79, 76, 84]⟩, .string ⟨#[78, 85, 84]⟩, .string ⟨#[71, 69, 65, 82]⟩, .string ⟨#[67, 65, 77]⟩, .string ⟨#[88, 49]⟩] 9)) [(w1.heap.size, cT2), (w.heap.size + 1, cT1)]) := d1.add (T := cT2) (Nat.le_refl _) (World.alloc_heap_new _ _) ((Below.refl _ _).alloc (Nat.le_refl _) _)
  clear d1 H1 hs0
  go_wp2_with fail
  refine (pick_sd cT2 5 H2.out (List.mem_cons_self ..) rfl (by omega) (by omega)).mono ?_
  rintro e w2 ⟨s2, rfl, m2, d2⟩
  have H3 : Hid (SD B w (w2.alloc (.cells #[.string ⟨#[66, 79, 76, 84]⟩, .string ⟨#[78, 85, 84]⟩, .string ⟨#[71, 69, 65, 82]⟩, .string ⟨#[66, 45, 49, 48]⟩, .string ⟨#[66, 45, 50, 48]⟩] 9)) [(w2.heap.size, cT3), (w1.heap.size, cT2), (w.heap.size + 1, cT1)]) := d2.add (T := cT3) (Nat.le_refl _) (World.alloc_heap_new _ _) ((Below.refl _ _).alloc (Nat.le_refl _) _)
  clear d2 H2
  go_wp2_with fail
  refine (pick_sd cT3 5 H3.out (List.mem_cons_self ..) rfl (by omega) (by omega)).mono ?_
  rintro e w3 ⟨s3, rfl, m3, d3⟩
  have H4 : Hid (SD B w w3 [(w2.heap.size, cT3), (w1.heap.size, cT2), (w.heap.size + 1, cT1)]) := d3
  have hrb := d3.rb
  have r0 : w3.cell? ⟨w.heap.size, 0, none⟩ = some (.string ⟨#[]⟩) := by simp [World.cell?, hrb]
  have r1 : w3.cell? ⟨w.heap.size, 1, none⟩ = some (.string ⟨#[]⟩) := by simp [World.cell?, hrb]
  have r2 : w3.cell? ⟨w.heap.size, 2, none⟩ = some (.string ⟨#[]⟩) := by simp [World.cell?, hrb]
  have rf : ∀ o, w3.frozen? ⟨w.heap.size, o, none⟩ = false := fun o => by simp [World.frozen?, hrb]
  have hcn : crsB ⟨s1, s2, s3⟩ = true := by
    simp only [crsB, Bool.and_eq_true]
    exact ⟨cT_names.1 _ m1, cT_names.2.1 _ m2, cT_names.2.2 _ m3⟩
  clear d3 H3 hrb m1 m2 m3
  go_wp2_with fail
  have hk : Keep w.heap.size w3 (((w3.setCell ⟨w.heap.size, 0, none⟩ (.string s1)).setCell ⟨w.heap.size, 1, none⟩ (.string s2)).setCell ⟨w.heap.size, 2, none⟩ (.string s3)) := (((Keep.refl _ _).setCell _ _).setCell _ _).setCell _ _
  have hkp := H4.out.kp
  have hl4 := H4.out.src.lt
  exact bodyPost_ret (v := .agg #[.string s1, .string s2, .string s3]) (by simp [results, Try.results15, go_sem, r0, r1, r2]) rfl ⟨⟨s1, s2, s3⟩, rfl, hcn, H4.out.src.below (hk.below (by omega) (by omega)), ⟨hk.os.trans hkp.os, hk.tape.trans hkp.tape, hk.output.trans hkp.output, Nat.le_trans hkp.size hk.size, fun k hk' hne => (hk.block k (by have := hkp.size; omega) (by omega)).trans (hkp.block k hk' hne)⟩⟩
end Go.Proofs.Ytfdfanleigcfpaa
