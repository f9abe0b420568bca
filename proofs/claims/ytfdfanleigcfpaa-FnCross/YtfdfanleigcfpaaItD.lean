/- What is led to by Theirs, rising: crossWays' sorted. -/
import Derived.Test.YtfdfanleigcfpaaItO
import Derived.Test.YtfdfanleigcfpaaAppCs
import Derived.Test.YtfdfanleigcfpaaItV
namespace Go.Proofs.Ytfdfanleigcfpaa
open Go.ChangeShapes Go.WideShapes Go.ChangeAt Go.RowKit
theorem cell_blk {W : World} {B i : Nat} {c : Array Value} {t : TypeId} {x : Value} (h : W.heap[B]? = some (.cells c t)) (hx : c[i]? = some x) : W.cell? ⟨B, i, none⟩ = some x := by
  unfold World.cell?
  rw [h]
  exact hx
theorem MC.look_val {w : World} {b : Nat} {kf : Crs → ByteArray × ByteArray} {l : List Crs} (h : MC w b kf l) (hp : l.Pairwise fun a b => kf a ≠ kf b) {c : Crs} (hc : c ∈ l) :
    (Instr.lookup 43 (.map (some b)) (kv (kf c)) false).run Try.prog w = .ok (cv c) w := by
  obtain ⟨es, clock, hb, he, _⟩ := h.ex
  obtain ⟨kl, hkl⟩ := key_of (h.sizes c hc)
  rcases keyC.find w hkl es.toList (es_keys he h.sizes) with ⟨h1, h2⟩ | ⟨j, e0, h1, h2, h3⟩
  · exact absurd rfl (es_none he h2 c hc)
  · obtain ⟨d, hd, e1, e2⟩ := es_get he h2
    have hk : kf d = kf c := kv_inj (e1.symm.trans h3)
    have hdc : d = c := by
      have h4 := atK_some hp (List.mem_of_getElem? hd)
      rw [hk, atK_some hp hc] at h4
      exact (Option.some.inj h4).symm
    subst hdc
    simp [Instr.lookup, run_underlying Try.underlying43, MapKept.run_getObj_map hb, keyC.check w _ hkl, h1, e2, Result.andThen]
theorem MC.pair {w : World} {b : Nat} {kf : Crs → ByteArray × ByteArray} {l : List Crs} (h : MC w b kf l) (hl : l.length ≤ 1000) : l.Pairwise fun a b => kf a ≠ kf b := by
  obtain ⟨_, _, _, _, _, hn⟩ := h.owns hl
  unfold List.Nodup at hn
  rw [List.pairwise_map] at hn
  exact hn
/-- The crosses of keys in their order. -/
theorem ordered {cs : List Crs} {ss : List (ByteArray × ByteArray)} (hn : cs.Pairwise fun a b => thK a ≠ thK b) (hp : ss.Perm (cs.map thK)) (hs : ss.Pairwise fun a b => kb b a = false) :
    ∃ out : List Crs, out.Perm cs ∧ (out.Pairwise fun a b => befB a b = true) ∧ out.map thK = ss := by
  let g : ByteArray × ByteArray → Crs := fun k => (atK thK k cs).getD ⟨⟨#[]⟩, ⟨#[]⟩, ⟨#[]⟩⟩
  have hg : ∀ c ∈ cs, g (thK c) = c := fun c hc => by
    show (atK thK (thK c) cs).getD _ = c
    rw [atK_some hn hc]
    rfl
  have h1 : (cs.map thK).map g = cs := by
    rw [List.map_map]
    have : ∀ c ∈ cs, (g ∘ thK) c = c := hg
    rw [List.map_congr_left this, List.map_id']
  have h2 : (ss.map g).Perm cs := by
    have := hp.map g
    rw [h1] at this
    exact this
  have h3 : (ss.map g).map thK = ss := by
    rw [List.map_map]
    have : ∀ k ∈ ss, (thK ∘ g) k = id k := fun k hk => by
      obtain ⟨c, hc, rfl⟩ := List.mem_map.1 (hp.mem_iff.1 hk)
      show thK (g (thK c)) = thK c
      rw [hg c hc]
    rw [List.map_congr_left this, List.map_id]
  refine ⟨ss.map g, h2, ?_, h3⟩
  have hnd : ss.Nodup := (hp.nodup_iff).2 (by unfold List.Nodup; rw [List.pairwise_map]; exact hn)
  have h4 : ss.Pairwise fun a b => kb a b = true := by
    have h5 := hs.and hnd
    refine h5.imp fun {a b} ⟨q1, q2⟩ => ?_
    cases hk : kb a b with
    | true => rfl
    | false => exact absurd (kb_tri hk q1) q2
  have h6 : ((ss.map g).map thK).Pairwise fun a b => kb a b = true := by rw [h3]; exact h4
  rw [List.pairwise_map] at h6
  exact h6.imp fun {a b} h => by rw [befB_kb]; exact h
set_option maxHeartbeats 4000000 in
theorem sorted_any (b1 b2 : Nat) (cs : List Crs) (w : World) (h : MC w b1 thK cs) (hl : cs.length ≤ 1000) (hz : ∀ c ∈ cs, c.partner.size ≤ 9223372036854775807 ∧ c.theirs.size ≤ 9223372036854775807 ∧ c.own.size ≤ 9223372036854775807) : Calls Try.prog 22 #[.agg #[.map (some b1), .map (some b2)]] w fun e w' => ∃ v out, e = .returned v ∧ out.Perm cs ∧ (out.Pairwise fun a b => befB a b = true) ∧ RowCs w' v out ∧ Below w.heap.size w w' := by
  have hpr := h.pair hl
  have b0 : Below w.heap.size w (w.alloc (.cells #[.map (some b1), .map (some b2)] 45)) := (Below.refl _ _).alloc (Nat.le_refl _) _
  go_enter Try.func22, Try.ntmps22
  go_wp2_with fail
  refine (keys_any b1 _).mono ?_
  rintro e w1 ⟨rfl, rfl⟩
  have hb1 : Below w.heap.size w ((w.alloc (.cells #[.map (some b1), .map (some b2)] 45)).alloc (.cells #[.map (some b1)] 43)) := b0.alloc (by simp) _
  obtain ⟨k0, k1⟩ := fl_twoC w (.cells #[.map (some b1), .map (some b2)] 45) (.cells #[.map (some b1)] 43)
  have hC := sortedFunc_any (w.heap.size + 1) b1 thK cs hl ((w.alloc (.cells #[.map (some b1), .map (some b2)] 45)).alloc (.cells #[.map (some b1)] 43)) (by simp) (cell_blk k1 rfl) (h.below hb1)
  clear k1
  go_wp2_with fail
  simp only [World.size_alloc] at hC ⊢
  refine hC.mono ?_
  rintro e w2 ⟨v, ss, rfl, hp, hs, hr, hb2⟩
  obtain ⟨out, ho1, ho2, ho3⟩ := ordered hpr hp hs
  have hlen : out.length = ss.length := by rw [← ho3]; simp
  obtain ⟨A, C, rfl, hA⟩ := hr
  have hbl : Below w.heap.size w w2 := hb1.trans (hb2.mono (by omega))
  have hlo : out.length = cs.length := ho1.length_eq
  have HI : Hid (Below w.heap.size w w2 ∧ MC w2 b1 thK cs ∧ w2.heap[w.heap.size]? = some (.cells #[.map (some b1), .map (some b2)] 45) ∧ out.Perm cs ∧ (out.Pairwise fun a b => befB a b = true) ∧ (out ≠ [] → ∃ g, A = some ⟨g, 0, none⟩ ∧ ∀ i c, out[i]? = some c → w2.cell? ⟨g, i * 2, none⟩ = some (.string c.partner) ∧ w2.cell? ⟨g, i * 2 + 1, none⟩ = some (.string c.theirs))) := by
    refine ⟨hbl, h.below hbl, (hb2.block _ (by omega)).trans k0, ho1, ho2, fun hne => ?_⟩
    obtain ⟨g, e, hg⟩ := hA (by intro e; rw [e] at ho3; simp at ho3; exact hne ho3)
    refine ⟨g, e, fun i c hi => hg i (thK c) ?_⟩
    rw [← ho3, List.getElem?_map, hi]
    rfl
  rw [← hlen]
  have hs2 : w.heap.size < w2.heap.size := (Array.getElem?_eq_some_iff.1 HI.out.2.2.1).1
  have HP : Hid (cs.Pairwise fun a b => thK a ≠ thK b) := hpr
  have HZ : Hid (∀ c ∈ cs, c.partner.size ≤ 9223372036854775807 ∧ c.theirs.size ≤ 9223372036854775807 ∧ c.own.size ≤ 9223372036854775807) := hz
  have hol : out.length ≤ 1000 := by omega
  clear hbl hA hp hs hC hb1 k0 b0 h hb2 ho1 ho2 ho3 hpr hz hlen hlo
  go_wp2
  go_loopw [3, 11] (fun lv i wr => ∃ k : Nat, i = .int .i64 (k : Int) ∧ k ≤ out.length ∧ (∃ A C, lv = .slice A (out.take k).length C) ∧ wr.ownsRow w2.heap.size 25 3 lv (out.take k).length (clCss (out.take k)) ∧ Below w2.heap.size w2 wr) (fun _ i _ => out.length - (RowKit.intOf i).toNat)
  case atStart => exact ⟨0, rfl, by omega, ⟨none, 0, by simp⟩, by simpa [clCss] using World.ownsRow_nil w2 w2.heap.size 25 3, Below.refl _ _⟩
  case round =>
    obtain ⟨k, rfl, hk, ⟨A1, C1, rfl⟩, hR, hb⟩ := hrel
    have HE : Hid (wr.ownsRow w2.heap.size 25 3 (.slice A1 (out.take k).length C1) (out.take k).length (clCss (out.take k)) ∧ Below w2.heap.size w2 wr) := ⟨hR, hb⟩
    by_cases hlt : k < out.length
    · have hlt' : (k : Int) < (out.length : Int) := by omega
      obtain ⟨c, hs⟩ : ∃ c, out[k]? = some c := ⟨_, List.getElem?_eq_getElem hlt⟩
      obtain ⟨g, rfl, hg2⟩ := HI.out.2.2.2.2.2 (by intro e; rw [e] at hlt; simp at hlt)
      obtain ⟨g0, g1⟩ := hg2 k c hs
      have c0 : wr.cell? ⟨g, k * 2, none⟩ = some (.string c.partner) := (hb.cell (cell_lt g0)).trans g0
      have c1 : wr.cell? ⟨g, k * 2 + 1, none⟩ = some (.string c.theirs) := (hb.cell (cell_lt g1)).trans g1
      have hmem : c ∈ cs := HI.out.2.2.2.1.mem_iff.1 (List.mem_of_getElem? hs)
      have kb0 := (hb.block _ hs2).trans HI.out.2.2.1
      have hal : Below wr.heap.size wr (wr.alloc (.cells #[.string c.partner, .string c.theirs] 53)) := (Below.refl _ _).alloc (Nat.le_refl _) _
      have hsz := HE.out.2.size
      have hL := ((HI.out.2.1.below HE.out.2).below hal).look_val HP.out hmem
      simp only [kv, cv, thK] at hL
      have y0 : (wr.alloc (.cells #[.string c.partner, .string c.theirs] 53)).cell? ⟨w.heap.size, 0, none⟩ = some (.map (some b1)) := by
        exact cell_blk ((hal.block w.heap.size (by omega)).trans kb0) rfl
      have HS : Hid (out[k]? = some c) := hs
      clear hs g0 g1 hg2 kb0 hR hb hmem hal
      have hrow : ((wr.alloc (.cells #[.string c.partner, .string c.theirs] 53)).alloc (.cells #[.string c.partner, .string c.theirs, .string c.own] 25)).ownsRow w2.heap.size 25 3 (.slice A1 (out.take k).length C1) (out.take k).length (clCss (out.take k)) := (HE.out.1.alloc _).alloc _
      have hat : AtCs ((wr.alloc (.cells #[.string c.partner, .string c.theirs] 53)).alloc (.cells #[.string c.partner, .string c.theirs, .string c.own] 25)) (wr.heap.size + 1) 0 c := by
        have e := (fl_twoC wr (.cells #[.string c.partner, .string c.theirs] 53) (.cells #[.string c.partner, .string c.theirs, .string c.own] 25)).2
        exact ⟨cell_blk e rfl, cell_blk e rfl, cell_blk e rfl⟩
      have htk : (out.take k).length ≤ 1000 := by rw [List.length_take]; omega
      go_wp2_with (first | (at_builtin; refine wpList_appCs rfl _ _ rfl rfl rfl hrow hat (by omega) (by simp; omega) ?_; rintro v4 w4 hown4 hgrow4 ⟨A4, C4, rfl⟩))
      have e3 : out.take (k + 1) = out.take k ++ [c] := by
        rw [List.take_add_one, HS.out]
        rfl
      have H4 : Hid (w4.ownsRow w2.heap.size 25 3 (.slice A4 (out.take (k + 1)).length C4) (out.take (k + 1)).length (clCss (out.take (k + 1))) ∧ Below w2.heap.size w2 w4) := by
        refine ⟨by rw [e3]; exact hown4, ((HE.out.2.alloc hsz _).alloc (by simp; omega) _).trans ⟨hgrow4.os, hgrow4.tape, hgrow4.output, hgrow4.size, fun q hq => hgrow4.block q (by simp; omega) (fun e => ?_)⟩⟩
        have := (hrow.lt q e.symm).1
        omega
      have e4 : (out.take (k + 1)).length = k + 1 := by rw [List.length_take]; omega
      have h4 := H4.out
      rw [e4] at h4
      try rw [Nat.min_eq_left hk]
      exact ⟨⟨k + 1, by go_num, by omega, ⟨A4, C4, by rw [e4]⟩, by rw [e4]; exact h4.1, h4.2⟩, by simp [RowKit.intOf]; omega⟩
    · obtain rfl : k = out.length := by omega
      clear hR hb
      go_wp2
      go_ret
      have h5 := HE.out.1
      rw [List.take_length] at h5
      obtain ⟨c, hc, hL⟩ := LCs.of_owns h5 (by omega) (fun i g hi => HZ.out g (HI.out.2.2.2.1.mem_iff.1 (List.mem_of_getElem? hi)))
      exact ⟨_, out, rfl, HI.out.2.2.2.1, HI.out.2.2.2.2.1, by rw [List.take_length]; exact hL.row, HI.out.1.trans (HE.out.2.mono (by omega))⟩
end Go.Proofs.Ytfdfanleigcfpaa
