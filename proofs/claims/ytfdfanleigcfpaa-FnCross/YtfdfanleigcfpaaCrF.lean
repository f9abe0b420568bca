/- Contract of the model's DrawCrossPut. -/
import Derived.Test.YtfdfanleigcfpaaCrE
import Derived.Test.YtfdfanleigcfpaaSrcNew
import Derived.Deep.RegionLaw
namespace Go.Proofs.Ytfdfanleigcfpaa
open Go.ChangeShapes Go.WideShapes Go.ChangeAt Go.RowKit
theorem bytesAt_belowC {w w' : World} {a : Option Addr} {len : Nat} {zs : List Int} (h : BytesAt w a len zs) (hb : Below w.heap.size w w') : BytesAt w' a len zs := by
  intro g
  obtain ⟨b, off, e, hc⟩ := h g
  exact ⟨b, off, e, fun i hi => (hb.cell (p := ⟨b, off + i, none⟩) (cell_lt (hc i hi))).trans (hc i hi)⟩
/-- The drawn list and the drawn cross in its box P; the answer's box; the source. -/
structure QG (B P : Nat) (w W : World) (c : Crs) (v : Value) (rs : List Crs) : Prop where
  src : IsSrc B W
  bel : Below w.heap.size w W
  rb : W.heap[w.heap.size]? = some (.cells #[.string ⟨#[]⟩, .string ⟨#[]⟩, .string ⟨#[]⟩] 25)
  box : W.heap[P]? = some (.cells #[.string c.partner, .string c.theirs, .string c.own] 25)
  ls : ∃ b, B < b ∧ LCs b W v rs ∧ (rs ≠ [] → b ≠ P)
  hB : w.heap.size < B
  hP : B < P
  smc : SmC c
theorem QG.keep {B P : Nat} {w W W' : World} {c : Crs} {v : Value} {rs : List Crs} (h : QG B P w W c v rs) (hk : Keep B W W') (hs : IsSrc B W') : QG B P w W' c v rs := by
  have hB := h.hB
  have hP := h.hP
  have hz := h.bel.size
  obtain ⟨b, hb, hL, hne⟩ := h.ls
  exact ⟨hs, h.bel.trans (hk.below (by omega) (by omega)), (hk.block _ (Array.getElem?_eq_some_iff.1 h.rb).1 (by omega)).trans h.rb, (hk.block _ (Array.getElem?_eq_some_iff.1 h.box).1 (by omega)).trans h.box, ⟨b, hb, hL.keep hk (by omega), hne⟩, hB, hP, h.smc⟩
theorem QG.below {B P : Nat} {w W W' : World} {c : Crs} {v : Value} {rs : List Crs} (h : QG B P w W c v rs) (hb : Below W.heap.size W W') : QG B P w W' c v rs := h.keep (Keep.of_below hb) (h.src.below (hb.mono h.src.lt))
theorem QG.set {B P : Nat} {w W : World} {c : Crs} {v : Value} {rs : List Crs} (h : QG B P w W c v rs) (s : ByteArray) (hs : s.size ≤ 12) : QG B P w (W.setCell ⟨P, 2, none⟩ (.string s)) ⟨c.partner, c.theirs, s⟩ v rs := by
  have hk : Keep P W (W.setCell ⟨P, 2, none⟩ (.string s)) := (Keep.refl _ _).setCell _ _
  have hB := h.hB
  have hP := h.hP
  have hz := h.src.lt
  obtain ⟨b, hb, hL, hne⟩ := h.ls
  refine ⟨h.src.below (hk.below (by omega) (by omega)), h.bel.trans (hk.below (by omega) h.bel.size), (hk.block _ (Array.getElem?_eq_some_iff.1 h.rb).1 (by omega)).trans h.rb, ?_, ⟨b, hb, hL.of_block fun hn => hk.block b (hL.lt hn) (hne hn), hne⟩, hB, hP, ⟨h.smc.1, h.smc.2.1, hs⟩⟩
  have := h.box
  simp [World.setCell, Array.getElem?_modify, this]
theorem QG.cells {B P : Nat} {w W : World} {c : Crs} {v : Value} {rs : List Crs} (h : QG B P w W c v rs) : W.cell? ⟨P, 0, none⟩ = some (.string c.partner) ∧ W.cell? ⟨P, 1, none⟩ = some (.string c.theirs) ∧ W.cell? ⟨P, 2, none⟩ = some (.string c.own) ∧ ∀ o, W.frozen? ⟨P, o, none⟩ = false := by
  refine ⟨cell_blk3 h.box rfl, cell_blk3 h.box rfl, cell_blk3 h.box rfl, fun o => ?_⟩
  have := h.box
  simp [World.frozen?, this]
theorem QG.rcells {B P : Nat} {w W : World} {c : Crs} {v : Value} {rs : List Crs} (h : QG B P w W c v rs) : W.cell? ⟨w.heap.size, 0, none⟩ = some (.string ⟨#[]⟩) ∧ W.cell? ⟨w.heap.size, 1, none⟩ = some (.string ⟨#[]⟩) ∧ W.cell? ⟨w.heap.size, 2, none⟩ = some (.string ⟨#[]⟩) ∧ ∀ o, W.frozen? ⟨w.heap.size, o, none⟩ = false := by
  refine ⟨cell_blk3 h.rb rfl, cell_blk3 h.rb rfl, cell_blk3 h.rb rfl, fun o => ?_⟩
  have := h.rb
  simp [World.frozen?, this]
theorem QG.fin {B P : Nat} {w W : World} {c : Crs} {v : Value} {rs : List Crs} (h : QG B P w W c v rs) (x0 x1 x2 : Value) : RowCs (((W.setCell ⟨w.heap.size, 0, none⟩ x0).setCell ⟨w.heap.size, 1, none⟩ x1).setCell ⟨w.heap.size, 2, none⟩ x2) v rs ∧ Below w.heap.size w (((W.setCell ⟨w.heap.size, 0, none⟩ x0).setCell ⟨w.heap.size, 1, none⟩ x1).setCell ⟨w.heap.size, 2, none⟩ x2) := by
  have hk : Keep w.heap.size W (((W.setCell ⟨w.heap.size, 0, none⟩ x0).setCell ⟨w.heap.size, 1, none⟩ x1).setCell ⟨w.heap.size, 2, none⟩ x2) := (((Keep.refl _ _).setCell _ _).setCell _ _).setCell _ _
  have hB := h.hB
  obtain ⟨b, hb, hL, hne⟩ := h.ls
  exact ⟨(hL.keep hk (by omega)).row, h.bel.trans (hk.below (Nat.le_refl _) h.bel.size)⟩
set_option maxRecDepth 100000 in
set_option maxHeartbeats 2000000 in
theorem drawCrossPut_any (a : Option Addr) (len cap : Nat) (zs : List Int) (w : World) (hl : len ≤ 1048576) (hr : BytesAt w a len zs) :
    Calls Try.prog 4 #[.slice a len cap] w fun e w' => ∃ (ad : Addr) (C : Nat) (rs : List Crs) (c : Crs), e = .returned (.tuple #[.slice (some ad) rs.length C, .agg #[.string c.partner, .string c.theirs, .string c.own]]) ∧ RowCs w' (.slice (some ad) rs.length C) rs ∧ (∀ g ∈ rs, SmC g) ∧ rs.length ≤ 250 ∧ SmC c ∧ Below w.heap.size w w' := by
  obtain ⟨W0, hW0⟩ : ∃ W0, w.alloc (.cells #[.string ⟨#[]⟩, .string ⟨#[]⟩, .string ⟨#[]⟩] 25) = W0 := ⟨_, rfl⟩
  have hb0 : Below w.heap.size w W0 := by rw [← hW0]; exact (Below.refl _ _).alloc (Nat.le_refl _) _
  have hr0 : W0.heap[w.heap.size]? = some (.cells #[.string ⟨#[]⟩, .string ⟨#[]⟩, .string ⟨#[]⟩] 25) := by rw [← hW0]; exact World.alloc_heap_new _ _
  have hs0 : W0.heap.size = w.heap.size + 1 := by rw [← hW0]; simp
  have HR : Hid (BytesAt W0 a len zs) := bytesAt_belowC hr hb0
  clear hr
  go_enter Try.func4, Try.ntmps4
  go_upto_region 1 with fail
  try rw [hW0]
  clear hW0
  go_wp2_with fail
  refine (source_any a len cap zs _ hl HR.out).mono ?_
  rintro e w1 ⟨rfl, hs1, hb1⟩
  have hz1 := hb1.size
  obtain ⟨B, hB⟩ : ∃ B, B = w.heap.size + 1 := ⟨_, rfl⟩
  rw [hs0, ← hB] at hs1
  have H1 : Hid (IsSrc B w1 ∧ Below w.heap.size w w1 ∧ w1.heap[w.heap.size]? = some (.cells #[.string ⟨#[]⟩, .string ⟨#[]⟩, .string ⟨#[]⟩] 25)) := ⟨hs1, hb0.trans (hb1.mono (by omega)), (hb1.block _ (by omega)).trans hr0⟩
  have hB1 := hs1.lt
  clear hs1 hb1 hr0 hb0 HR
  go_upto_region 2 with fail
  rw [← hB]
  have hwB : w.heap.size < B := by omega
  clear hB hz1 hs0
  go_wp2_with fail
  refine (l08Crosses_any B _ H1.out.1).mono ?_
  rintro e w2 ⟨v, rs, rfl, hq⟩
  obtain ⟨ad, Cv, hvv⟩ := hq.sh
  subst hvv
  have HQ : Hid (QC B w1 w2 (.slice (some ad) rs.length Cv) rs) := hq
  clear hq
  go_upto_region 3 with fail
  go_wp2_with fail
  refine (l08Cross_any B _ HQ.out.src).mono ?_
  rintro e w3 ⟨c, rfl, hc, s3, k3⟩
  have hq3 := HQ.out.keep k3 s3
  have hsc : SmC c := crsB_sizes hc
  have ha3 : Below w3.heap.size w3 (w3.alloc (.cells #[.string c.partner, .string c.theirs, .string c.own] 25)) := (Below.refl _ _).alloc (Nat.le_refl _) _
  have h3 : QG B w3.heap.size w (w3.alloc (.cells #[.string c.partner, .string c.theirs, .string c.own] 25)) c (.slice (some ad) rs.length Cv) rs := by
    have hl1 := H1.out.2.1.size
    have hk3 := hq3.kp
    have hz3 := hk3.size
    have hb2 : Below w.heap.size w w3 := H1.out.2.1.trans (hk3.below (by omega) (by omega))
    obtain ⟨b, hb, hL⟩ := hq3.ow
    refine ⟨hq3.src.below (ha3.mono (by omega)), hb2.trans (ha3.mono hb2.size), (ha3.block _ (by omega)).trans ((hk3.block _ (Array.getElem?_eq_some_iff.1 H1.out.2.2).1 (by omega)).trans H1.out.2.2), World.alloc_heap_new _ _, ⟨b, by omega, hL.below ha3, fun hn => ?_⟩, by omega, by omega, hsc⟩
    have := hL.lt hn
    omega
  obtain ⟨P, hP⟩ : ∃ P, P = w3.heap.size := ⟨_, rfl⟩
  obtain ⟨W3, hW3⟩ : ∃ W3, w3.alloc (.cells #[.string c.partner, .string c.theirs, .string c.own] 25) = W3 := ⟨_, rfl⟩
  rw [hW3, ← hP] at h3
  have H3 : Hid (QG B P w W3 c (.slice (some ad) rs.length Cv) rs) := h3
  have HZ : Hid ((∀ g ∈ rs, SmC g) ∧ rs.length ≤ 250) := ⟨hq3.sm, hq3.len⟩
  clear h3 ha3 s3 k3 hq3 HQ H1 hc hsc
  go_upto_region 4 with fail
  try rw [hW3]
  try rw [← hP]
  clear hW3 hP
  go_wp2_with fail
  refine (one_any B 12 _ (by omega) (by omega) H3.out.src).mono ?_
  rintro e w5 ⟨on, rfl, s5, k5⟩
  have H5 : Hid (QG B P w w5 c (.slice (some ad) rs.length Cv) rs) := H3.out.keep k5 s5
  clear s5 k5 H3
  go_upto_if 14 with fail
  go_cut [] from 15 to 18 (fun wx => ∃ d : Crs, QG B P w wx d (.slice (some ad) rs.length Cv) rs)
  case first =>
    cases on with
    | false =>
      go_wp2_with fail
      go_meet
      exact ⟨c, H5.out⟩
    | true =>
      have H6 : Hid (QG B P w (w5.alloc (.cells #[.string ⟨#[]⟩, .string ⟨#[97]⟩] 9)) c (.slice (some ad) rs.length Cv) rs) := H5.out.below ((Below.refl _ _).alloc (Nat.le_refl _) _)
      have hB5 : B < w5.heap.size := H5.out.src.lt
      have hcell := cells_of_texts (T := [⟨#[]⟩, ⟨#[97]⟩]) (World.alloc_heap_new w5 (.cells #[.string ⟨#[]⟩, .string ⟨#[97]⟩] 9))
      have HC : Hid (∀ (i : Nat) (t : ByteArray), ([⟨#[]⟩, ⟨#[97]⟩] : List ByteArray)[i]? = some t → (w5.alloc (.cells #[.string ⟨#[]⟩, .string ⟨#[97]⟩] 9)).cell? ⟨w5.heap.size, i, none⟩ = some (.string t)) := hcell
      clear hcell
      go_wp2_with fail
      refine (pick_any B w5.heap.size 2 2 [⟨#[]⟩, ⟨#[97]⟩] _ (by omega) (by omega) rfl (by omega) HC.out H6.out.src).mono ?_
      rintro e w6 ⟨s, rfl, hs, s6, k6⟩
      have hsz : s.size ≤ 12 := by
        simp only [List.mem_cons, List.not_mem_nil, or_false] at hs
        rcases hs with rfl | rfl <;> decide
      have H7 : Hid (QG B P w w6 c (.slice (some ad) rs.length Cv) rs) := H6.out.keep k6 s6
      obtain ⟨c0, c1, c2, cf⟩ := H7.out.cells
      clear hs s6 k6 H6 H5 HC
      go_wp2_with fail
      go_meet
      exact ⟨_, H7.out.set s hsz⟩
  case rest =>
    obtain ⟨d, hq⟩ := hcut
    rename World => wz
    have HQ : Hid (QG B P w wz d (.slice (some ad) rs.length Cv) rs) := hq
    obtain ⟨c0, c1, c2, cf⟩ := hq.cells
    obtain ⟨r0, r1, r2, rf⟩ := hq.rcells
    have hPw : w.heap.size < P := by have := hq.hP; omega
    clear hq H5
    go_upto_region 6 with fail
    go_region_law (fail)
    go_wp2
    obtain ⟨f1, f2⟩ := HQ.out.fin (.string d.partner) (.string d.theirs) (.string d.own)
    exact bodyPost_ret (v := .tuple #[.slice (some ad) rs.length Cv, .agg #[.string d.partner, .string d.theirs, .string d.own]]) (by simp [results, Try.results4, go_sem, r0, r1, r2]) rfl ⟨ad, Cv, rs, d, rfl, f1.below (Below.refl _ _).drew, HZ.out.1, HZ.out.2, HQ.out.smc, f2.drew⟩
end Go.Proofs.Ytfdfanleigcfpaa
