/- The keys of a map of crosses, each once, in some order: maps.Keys, its iterator; slices.AppendSeq and slices.Collect of it. -/
import Derived.Test.YtfdfanleigcfpaaCrM
import Derived.RangeFuncNested
import Derived.RangeFuncBound
import Derived.RangeFuncCalls
import Derived.RangeFuncLeaves
import Derived.RangeFuncBox
import Derived.Sort.MapsRangeIn
import Derived.Shelf.Abstract
import Derived.WalkKit
import Derived.OwnWalkIn
import Derived.TacticsInMore
import Derived.RegionIn
import Derived.LoopNIn
import Derived.LoopIn
import Derived.Maps.AppendAt
namespace Go.Proofs.Ytfdfanleigcfpaa
open Go.ChangeShapes Go.WideShapes Go.ChangeAt Go.RowKit Go.Shelf
open Go.WideElems (Fit rd rg rg_of rd_mk)
attribute [local go_sem] Oper.semAt_some
/-- How an element of the map is read here: not at all. -/
def rdU (_ : Value) : Option (DataW Unit × List MemPlace) := some (.nil, [])
theorem MC.owns {w : World} {b : Nat} {kf : Crs → ByteArray × ByteArray} {l : List Crs} (h : MC w b kf l) (hl : l.length ≤ 1000) :
    ∃ D, w.ownsMap Try.prog 53 rdU b l.length D ∧ (∀ k ∈ l.map kf, Maps.has D (klit k) = true) ∧ (∀ kl, Maps.has D kl = true → ∃ c ∈ l, kl = klit (kf c)) ∧ Maps.size D = l.length ∧ (l.map kf).Nodup := by
  obtain ⟨es, clock, hb, he, hS⟩ := h.ex
  have hlen : es.size = l.length := by
    have := congrArg List.length he
    simpa using this
  have hrd : ∀ x ∈ es.toList, ∃ c ∈ l, rd Try.prog 53 rdU x = some (klit (kf c), .nil) := fun x hx => by
    obtain ⟨j, hj⟩ := List.getElem?_of_mem hx
    obtain ⟨c, hc, h1, h2⟩ := es_get he hj
    refine ⟨c, List.mem_of_getElem? hc, ?_⟩
    have := rd_mk (P := Try.prog) (k := 53) (R := rdU) (key := x.key) (val := x.val) (born := x.born) (kl := klit (kf c)) (yv := (.nil, [])) (by rw [h1]; exact key_lit (h.sizes c (List.mem_of_getElem? hc))) rfl
    exact this
  refine ⟨_, ⟨es, clock, hb, ⟨by unfold maxLen; omega, hS, fun x hx => ?_⟩, by omega, rfl⟩, ?_, ?_, ?_, ?_⟩
  · obtain ⟨c, _, hc⟩ := hrd x hx
    exact ⟨_, hc⟩
  · intro k hk
    obtain ⟨c, hc, rfl⟩ := List.mem_map.1 hk
    obtain ⟨i, hi⟩ := List.getElem?_of_mem hc
    have hi' : i < es.toList.length := by have := (List.getElem?_eq_some_iff.1 hi).1; simp; omega
    obtain ⟨c', hc', e1, _⟩ := es_get he (List.getElem?_eq_getElem hi')
    rw [hi] at hc'
    cases hc'
    obtain ⟨d, hd, hr⟩ := hrd _ (List.getElem_mem hi')
    rw [Maps.has_eq, List.any_eq_true]
    refine ⟨rg Try.prog 53 rdU es.toList[i], mem_sorted.2 (List.mem_map.2 ⟨_, List.getElem_mem hi', rfl⟩), ?_⟩
    have hk1 : keyOf Try.prog 53 es.toList[i].key = some (klit (kf c)) := by rw [e1]; exact key_lit (h.sizes c hc)
    have hk2 := WideElems.rd_key hr
    rw [hk1] at hk2
    rw [rg_of hr]
    have : klit (kf c) = klit (kf d) := Option.some.inj hk2
    show (klit (kf d)).sameKey (klit (kf c)) = true
    rw [this]
    exact WideAt.sameKey_self (keyC.key (key_lit (h.sizes d hd)))
  · intro kl hkl
    rw [Maps.has_eq, List.any_eq_true] at hkl
    obtain ⟨p, hp, hpk⟩ := hkl
    obtain ⟨x, hx, rfl⟩ := List.mem_map.1 (mem_sorted.1 hp)
    obtain ⟨c, hc, hr⟩ := hrd x hx
    rw [rg_of hr] at hpk
    exact ⟨c, hc, (WideAt.sameKey_eq hpk).symm⟩
  · rw [Maps.size_eq, length_sorted]
    simpa using hlen
  · have hn := ((MapKept.stamped_iff es clock).1 hS).2.2
    unfold List.Nodup
    rw [List.pairwise_map]
    have h1 : (es.toList.map (fun e => (e.key, e.val))).Pairwise (fun a b => a.1 ≠ b.1) := by
      rw [List.pairwise_map]
      exact hn
    rw [he, List.pairwise_map] at h1
    exact h1.imp fun hne e => hne (by rw [e])
/-- What has come so far. -/
def Col (kf : Crs → ByteArray × ByteArray) (cs : List Crs) (left : Lit → Bool) (ss : List (ByteArray × ByteArray)) : Prop := ss.Nodup ∧ ∀ x, x ∈ ss ↔ (x ∈ cs.map kf ∧ left (klit x) = false)
theorem Col.perm {kf : Crs → ByteArray × ByteArray} {cs : List Crs} {left : Lit → Bool} {ss : List (ByteArray × ByteArray)} (h : Col kf cs left ss) (hn : (cs.map kf).Nodup) (hl : ∀ kl, left kl = false) : ss.Perm (cs.map kf) :=
  (List.perm_ext_iff_of_nodup h.1 hn).2 fun x => by rw [h.2 x, hl]; simp
theorem klit_inj {a b : ByteArray × ByteArray} (ha : KS a) (hb : KS b) (h : klit a = klit b) : a = b := kv_inj (keyC.inj (key_lit ha) (by rw [h]; exact key_lit hb))
theorem Col.step {kf : Crs → ByteArray × ByteArray} {cs : List Crs} {left : Lit → Bool} {ss : List (ByteArray × ByteArray)} (h : Col kf cs left ss) (hs : ∀ c ∈ cs, KS (kf c)) {c : Crs} (hc : c ∈ cs) (hlk : left (klit (kf c)) = true) :
    Col kf cs (fun z => left z && !z.sameKey (klit (kf c))) (ss ++ [kf c]) := by
  have hnew : kf c ∉ ss := fun hx => by have := ((h.2 _).1 hx).2; rw [hlk] at this; cases this
  refine ⟨List.nodup_append.2 ⟨h.1, by simp, fun a ha b hb => by simp at hb; subst hb; exact fun e => hnew (e ▸ ha)⟩, fun x => ?_⟩
  by_cases hx : x = kf c
  · subst hx
    have h1 : (klit (kf c)).sameKey (klit (kf c)) = true := WideAt.sameKey_self (keyC.key (key_lit (hs c hc)))
    simp only [List.mem_append, List.mem_singleton, or_true, true_iff]
    exact ⟨List.mem_map.2 ⟨c, hc, rfl⟩, by simp [h1]⟩
  · have h2 : x ∈ cs.map kf → (klit x).sameKey (klit (kf c)) = false := fun hm => by
      cases hk : (klit x).sameKey (klit (kf c)) with
      | false => rfl
      | true =>
        obtain ⟨d, hd, rfl⟩ := List.mem_map.1 hm
        exact absurd (klit_inj (hs d hd) (hs c hc) (WideAt.sameKey_eq hk)) hx
    simp only [List.mem_append, List.mem_singleton, hx, or_false, h.2 x]
    constructor
    · rintro ⟨hm, hl⟩
      exact ⟨hm, by simp [hl]⟩
    · rintro ⟨hm, hl⟩
      rw [h2 hm] at hl
      exact ⟨hm, by simpa using hl⟩
set_option maxRecDepth 100000 in
set_option maxHeartbeats 2000000 in
theorem keys1_in (F : Fence) (n : Nat) (hF : F.fn 41) (hro : F.round = none) (hn : 1 ≤ n) (l Bm b : Nat) (kf : Crs → ByteArray × ByteArray) (cs : List Crs) (hl : cs.length ≤ 1000) (J Jx : List (ByteArray × ByteArray) → World → Prop)
    (hY : ∀ pre x W, J pre W → pre.length < cs.length → YieldAt F (n - 1) Try.prog l #[kv x] W fun e W' =>
      (e = .returned (.bool true) ∧ J (pre ++ [x]) W' ∧ KeepsWalks W W') ∨ (e = .returned (.bool false) ∧ Jx (pre ++ [x]) W'))
    (W : World) (hJ : AbidesFrom W.heap.size J) (hm : W.cell? ⟨Bm, 0, none⟩ = some (.map (some b))) (hown : MC W b kf cs) (h0 : J [] W) :
    CallsIn F n Try.prog 41 #[.func (.yield l) #[] #[], .pointer (some ⟨Bm, 0, none⟩)] W fun e W' => (∃ v, e = .returned v) ∧
      ((∃ ss, ss.Perm (cs.map kf) ∧ J ss W') ∨ (∃ pre, True ∧ Jx pre W')) := by
  obtain ⟨D, hD, hhas, hin, hsz, hnd⟩ := hown.owns hl
  have hks := hown.sizes
  refine callsIn_of_wp Try.func41 rfl hF ?_ hro
  simp only [Try.ntmps41, List.size_toArray, List.length_cons, List.length_nil, Nat.reduceAdd, Nat.reduceSub, Array.replicate_succ, Array.replicate_zero, List.push_toArray, List.append_toArray, List.nil_append, List.cons_append]
  gi_wp2_with (first | (gi_at_range; refine wpListIn_range_own _ rfl _ 43 rfl 53 25 keyC Try.underlying43 _ b _ _ rfl hD ?_; intro w0 hrg0 hg0 hs0) | gi_in)
  go_frame
  gi_loopw [3] (fun _ wr => ∃ (left : Lit → Bool) (cnt : Nat) (ss : List (ByteArray × ByteArray)), wr.ranges Try.prog 53 rdU b W.heap.size cs.length D left cnt ∧ ss.length + cnt ≤ cs.length ∧ Col kf cs left ss ∧ J ss wr) (fun _ wr => wr.rangeLeft b W.heap.size)
  case atStart =>
    refine ⟨_, _, [], hrg0, by rw [hsz]; simp, ⟨List.nodup_nil, fun x => ?_⟩, hJ [] W w0 none h0 hg0 (fun r e => by cases e)⟩
    constructor
    · intro h
      cases h
    · rintro ⟨h1, h2⟩
      rw [hhas x h1] at h2
      cases h2
  case round =>
    obtain ⟨left, cnt, ss, hrg, hcs, hC, hJs⟩ := hrel
    gi_wp2_with (first | (gi_at_next; refine wpListIn_next_ranges _ rfl _ rfl 53 keyC rdU id id (fun key _ _ => ⟨key, rfl⟩) (fun v _ _ => ⟨v, rfl⟩) b W.heap.size cs.length _ _ _ rfl hrg ?_ ?_) | gi_in)
    · intro hc0 hl0
      gi_wp2
      go_end0
      exact ⟨⟨_, rfl⟩, .inl ⟨ss, hC.perm hnd hl0, hJs⟩⟩
    · intro x y kl yd yp w2 cnt2 hkey hlk hv hat hrg2 hlt hg2 hs2 hen
      obtain ⟨c, hc, rfl⟩ := hin kl (Maps.has_true_of_atKey hat)
      have hx : x = kv (kf c) := keyC.inj hkey (key_lit (hks c hc))
      subst hx
      have hJ2 : J ss w2 := hJ ss wr w2 (some W.heap.size) hJs hg2 (fun r e => by cases e; exact ⟨Nat.le_refl _, hrg.iter_walk⟩)
      have hJ3 : J ss (w2.alloc (.cells #[.string (kf c).1, .string (kf c).2] 53)) := hJ ss w2 _ none hJ2 (World.grownBy_alloc _ _ _) (fun r e => by cases e)
      obtain ⟨fn, tmps, assign, body, hy, hR⟩ := hY ss (kf c) _ hJ3 (by omega)
      have hrg3 := hrg2.alloc (.cells #[.string (kf c).1, .string (kf c).2] 53)
      have hstep := hC.step hks hc hlk
      clear hs2 hJ2 hJ3 hkey hv hat
      unfold kv at hy hen
      try simp only [id_eq] at hen
      gi_wp2
      refine hR.mono ?_
      rintro e W3 (⟨rfl, hJ4, hk3⟩ | ⟨rfl, hJx⟩)
      · gi_wp2
        have hrg4 := hrg3.of_walks hk3
        go_roundw
        case rel => exact ⟨_, cnt2, ss ++ [kf c], hrg4, by simp; omega, hstep, hJ4⟩
        case measure => rw [hrg4.left_eq, hrg.left_eq]; exact hlt
      · gi_wp2
        refine bodyPost_ret (results_none rfl _ _ _) rfl ?_
        exact ⟨⟨_, rfl⟩, .inr ⟨_, trivial, hJx⟩⟩
theorem keys_stops (F : Fence) (n : Nat) (hF : F.fn 41) (hro : F.round = none) (hn : 1 ≤ n) (Bm b : Nat) (kf : Crs → ByteArray × ByteArray) (cs : List Crs) (hl : cs.length ≤ 1000) (w : World) (hBm : Bm < w.heap.size)
    (hm : w.cell? ⟨Bm, 0, none⟩ = some (.map (some b))) (hown : MC w b kf cs) :
    SeqStopsK F n Try.prog 41 #[.pointer (some ⟨Bm, 0, none⟩)] (fun x => #[kv x]) KeepsWalks (fun ss => ss.Perm (cs.map kf)) (fun _ => True) cs.length w := fun l J Jx W hW hJ _ hY h0 =>
  keys1_in F n hF hro hn l Bm b kf cs hl J Jx hY W hJ ((hW.cell (p := ⟨Bm, 0, none⟩) hBm).trans hm) (hown.below hW) h0
/-- A key's cells. -/
def kc (k : ByteArray × ByteArray) : List Value := [.string k.1, .string k.2]
/-- A loop that collects keys in a box. -/
structure EK (n₀ E : Nat) (w W : World) (v : Value) (xs : List (ByteArray × ByteArray)) : Prop where
  box : Boxed W E 63 v
  row : W.ownsRow n₀ 53 2 v xs.length (xs.flatMap kc)
  bel : Below n₀ w W
  hn : n₀ ≤ E
  w0 : n₀ ≤ w.heap.size
  nil : v = .slice none 0 0 ↔ xs = []
theorem EK.sz {n₀ E : Nat} {w W : World} {v : Value} {xs : List (ByteArray × ByteArray)} (h : EK n₀ E w W v xs) : n₀ ≤ W.heap.size := Nat.le_trans h.w0 h.bel.size
theorem EK.own {n₀ E B : Nat} {w : World} (hB : n₀ ≤ B) : OwnFrom B (fun (s : List (ByteArray × ByteArray)) W => ∃ v, EK n₀ E w W v s) := by
  rintro s W W' row ⟨v, h⟩ hg hr
  have hnc : ∀ {b : Nat} {c : Array Value} {t : TypeId}, W.heap[b]? = some (.cells c t) → some b ≠ row := by
    intro b c t hb e
    obtain ⟨_, o, ho, hc⟩ := hr b e.symm
    rw [hb] at ho
    cases ho
    simp [Obj.isCells] at hc
  refine ⟨v, h.box.kept hg (hnc h.box), h.row.kept hg ?_, h.bel.grown hg h.sz (fun k e => Nat.le_trans hB (hr k e).1), h.hn, h.w0, h.nil⟩
  rcases h.row.2 with ⟨rfl, _⟩ | ⟨g, cap, cur, rfl, _, hgb, _⟩
  · exact .inl rfl
  · exact .inr (fun e => hnc hgb (by simpa [Value.ownBlock] using e))
theorem EK.app {n₀ E : Nat} {w W w1 : World} {v v' : Value} {xs : List (ByteArray × ByteArray)} {x : ByteArray × ByteArray} {tmp : Obj} (h : EK n₀ E w W v xs)
    (hown' : w1.ownsRow n₀ 53 2 v' (xs.length + 1) (xs.flatMap kc ++ kc x)) (hgrow : (W.alloc tmp).grownBy w1 v.ownBlock) :
    Boxed w1 E 63 v ∧ EK n₀ E w (w1.setCell ⟨E, 0, none⟩ v') v' (xs ++ [x]) ∧ KeepsOthers W (w1.setCell ⟨E, 0, none⟩ v') := by
  obtain ⟨hv1, hv2, hr2, hk2, hb2⟩ := h.box.appended (by decide) h.row h.sz h.hn hown' hgrow
  refine ⟨hv1, ⟨hv2, by simpa using hr2, h.bel.trans hb2, h.hn, h.w0, ?_⟩, hk2⟩
  obtain ⟨g, cap, rfl⟩ := ownsRow_succ hown'
  simp
theorem infoKey : (Try.prog.info? 53).map (fun i => (i.zero, i.size, i.bytes)) = some (some (.agg #[.string ⟨#[]⟩, .string ⟨#[]⟩]), 2, 32) := by kernel_rfl
theorem KeepsWalks.of_others {W W' : World} (h : KeepsOthers W W') : KeepsWalks W W' := ⟨h.size, fun k o hk hw => h.same k o hk (Obj.not_cells_of_walk hw)⟩
end Go.Proofs.Ytfdfanleigcfpaa
