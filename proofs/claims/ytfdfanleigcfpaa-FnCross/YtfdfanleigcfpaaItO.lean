/- slices.SortFunc and slices.SortedFunc of a map's keys. -/
import Derived.Shelf.SlSortCmp.NoneTotal
import Derived.Test.YtfdfanleigcfpaaShSf
import Derived.Test.YtfdfanleigcfpaaKbP
import Derived.Test.YtfdfanleigcfpaaKyA
namespace Go.Proofs.Ytfdfanleigcfpaa
open Go.ChangeShapes Go.WideShapes Go.ChangeAt Go.RowKit Go.Shelf
open Go.Lib (compareBytes)
theorem kcmp_swo : Sort.SWO (ltOf kcmp) := by
  have lt : ∀ x y, ltOf kcmp x y = kb x y := fun x y => by
    unfold ltOf
    rw [Bool.eq_iff_iff, decide_eq_true_eq]
    exact kcmp_neg x y
  refine ⟨fun x => by rw [lt]; exact kb_irrefl x, fun x y z h1 h2 => ?_, fun x y z h1 h2 => ?_⟩
  · rw [lt] at h1 h2 ⊢
    exact kb_trans h1 h2
  · rw [lt] at h1 h2 ⊢
    cases h : kb x z with
    | false => rfl
    | true =>
      cases h3 : kb y x with
      | true =>
        have := kb_trans h3 h
        rw [h2] at this
        cases this
      | false =>
        have := kb_tri h1 h3
        subst this
        rw [h] at h2
        cases h2
theorem grow_three (W : World) (o1 o2 o3 : Obj) : (((W.alloc o1).alloc o2).alloc o3).drew = Sort.grow (W.drewN 1) #[o1, o2, o3] := by
  have e : W.heap ++ #[o1, o2, o3] = ((W.heap.push o1).push o2).push o3 := by
    apply Array.ext'
    simp
  unfold Sort.grow World.drewN
  rw [show ({ W with drawn := W.drawn + 1 } : World).heap = W.heap from rfl, e]
  rfl
theorem kcmp_lays (blk off size : Nat) (w : World) : CmpLays Try.prog 32 #[] kc 2 kcmp blk off size w := fun m os dk _ x y =>
  (kcmp_grows x y _).mono fun _ _ ⟨he, o1, o2, o3, hw⟩ => ⟨he, 1, #[o1, o2, o3], by rw [hw]; exact grow_three _ _ _ _⟩
theorem sw_below {w : World} {g B n : Nat} (d : Array (ByteArray × ByteArray)) (os : Array Obj) (hB : B ≤ g) (hs : B ≤ w.heap.size) : Below B w (sortWorldK kc 2 w g 0 n d os) := by
  refine ⟨rfl, rfl, rfl, size_sortWorldK_c kc 2 w g 0 n d os, fun k hk => ?_⟩
  unfold sortWorldK Sort.grow Sort.putRowK Sort.putRow Sort.mapBlock Sort.ahead
  show ((w.heap.modify g _) ++ os)[k]? = w.heap[k]?
  rw [Array.getElem?_append, if_pos (by simp; omega), Array.getElem?_modify, if_neg (by omega)]
/-- A row of keys. -/
def RowK (W : World) (v : Value) (ss : List (ByteArray × ByteArray)) : Prop := ∃ a cap, v = .slice a ss.length cap ∧ (ss ≠ [] → ∃ g, a = some ⟨g, 0, none⟩ ∧ ∀ i k, ss[i]? = some k → W.cell? ⟨g, i * 2, none⟩ = some (.string k.1) ∧ W.cell? ⟨g, i * 2 + 1, none⟩ = some (.string k.2))
theorem flat_at : ∀ {ss : List (ByteArray × ByteArray)} {i : Nat} {k : ByteArray × ByteArray}, ss[i]? = some k → (ss.flatMap kc)[i * 2]? = some (.string k.1) ∧ (ss.flatMap kc)[i * 2 + 1]? = some (.string k.2)
  | [], i, k, h => by simp at h
  | x :: r, 0, k, h => by
    simp only [List.getElem?_cons_zero, Option.some.injEq] at h
    subst h
    exact ⟨rfl, rfl⟩
  | x :: r, i + 1, k, h => by
    rw [List.getElem?_cons_succ] at h
    obtain ⟨e0, e1⟩ := flat_at h
    have hc : (x :: r).flatMap kc = kc x ++ r.flatMap kc := rfl
    have hl : (kc x).length = 2 := rfl
    refine ⟨?_, ?_⟩
    · rw [hc, List.getElem?_append_right (by omega), hl, ← e0]
      congr 1
      omega
    · rw [hc, List.getElem?_append_right (by omega), hl, ← e1]
      congr 1
      omega
theorem holdsK_iff {w : World} {g : Nat} {d : Array (ByteArray × ByteArray)} : Sort.HoldsK kc 2 w g 0 d ↔ ∀ i k, d[i]? = some k → (w.cell? ⟨g, i * 2, none⟩ = some (.string k.1) ∧ w.frozen? ⟨g, i * 2, none⟩ = false) ∧ w.cell? ⟨g, i * 2 + 1, none⟩ = some (.string k.2) ∧ w.frozen? ⟨g, i * 2 + 1, none⟩ = false := by
  constructor
  · intro h i k hi
    obtain ⟨hlt, he⟩ := Array.getElem?_eq_some_iff.1 hi
    have e : d[i]! = k := by rw [getElem!_pos d i hlt]; exact he
    have h0 := h (i * 2) (by simp; omega)
    have h1 := h (i * 2 + 1) (by simp; omega)
    rw [Sort.get_flatK kc 2 d _ (by omega), show i * 2 / 2 = i by omega, show i * 2 % 2 = 0 by omega, e] at h0
    rw [Sort.get_flatK kc 2 d _ (by omega), show (i * 2 + 1) / 2 = i by omega, show (i * 2 + 1) % 2 = 1 by omega, e] at h1
    rw [Nat.zero_add] at h0 h1
    exact ⟨h0, h1⟩
  · intro h j hj
    rw [Sort.size_flatK] at hj
    have hlt : j / 2 < d.size := by omega
    obtain ⟨h0, h1⟩ := h (j / 2) _ (Array.getElem?_eq_getElem hlt)
    rw [Sort.get_flatK kc 2 d _ hj, getElem!_pos d (j / 2) hlt, Nat.zero_add]
    rcases Nat.mod_two_eq_zero_or_one j with e | e
    · rw [e]
      rw [show j / 2 * 2 = j by omega] at h0
      exact h0
    · rw [e]
      rw [show j / 2 * 2 + 1 = j by omega] at h1
      exact h1
theorem aggKey (w : World) : (isAgg 53).run Try.prog w = .ok true w := Try.isAgg53 w
theorem sizeKey (w : World) : (Go.sizeOf 53).run Try.prog w = .ok 2 w := Try.sizeOf53 w
theorem sortFunc_any (v : Value) (ss : List (ByteArray × ByteArray)) (base : Nat) (w : World) (h : w.ownsRow base 53 2 v ss.length (ss.flatMap kc)) (hbase : base ≤ w.heap.size) (hn : v = .slice none 0 0 ↔ ss = []) (hl : ss.length ≤ 1000) :
    Calls Try.prog 40 #[v, .func (.func 32) #[] #[]] w fun e w' => e = .returned (.tuple #[]) ∧ ∃ ss', ss'.Perm ss ∧ (ss'.Pairwise fun a b => kb b a = false) ∧ RowK w' v ss' ∧ Below base w w' := by
  rcases h.2 with ⟨rfl, h0⟩ | ⟨g, cap, cur, rfl, hb, hh, hc, hm, hs, ht⟩
  · have e := hn.1 rfl
    subst e
    refine (AnyF.slices_SortFunc_none laysSf none 0 (.func (.func 32) #[] #[]) w).mono ?_
    rintro e w' ⟨rfl, rfl⟩
    exact ⟨rfl, [], List.Perm.refl _, List.Pairwise.nil, ⟨none, 0, rfl, fun h => absurd rfl h⟩, Below.refl _ _⟩
  · have hH : Sort.HoldsK kc 2 w g 0 ss.toArray := holdsK_iff.2 fun i k hi => by
      have hi' : ss[i]? = some k := by simpa using hi
      obtain ⟨e0, e1⟩ := flat_at hi'
      have hlt := (List.getElem?_eq_some_iff.1 hi').1
      rw [← ht, List.getElem?_take_of_lt (by omega), Array.getElem?_toList] at e0 e1
      refine ⟨⟨?_, ?_⟩, ?_, ?_⟩ <;> simp [World.cell?, World.frozen?, hh, e0, e1]
    have hg : g < w.heap.size := (Array.getElem?_eq_some_iff.1 hh).1
    have := AnyQ.slices_SortFunc laysSf 2 aggKey sizeKey kc (fun _ => rfl) (fun x v hv => by simp only [kc, List.mem_cons, List.not_mem_nil, or_false] at hv; rcases hv with rfl | rfl <;> rfl) kcmp kcmp_swo 32 #[] g 0 cap ss.toArray w (enters_of Try.func32 (by kernel_rfl) rfl) (kcmp_lays _ _ _ _) hH hg (by simp; omega)
    refine this.mono ?_
    rintro e w' ⟨rfl, d', n, os, hP, hS, rfl⟩
    obtain ⟨p1, _, p3⟩ := hP
    have hd : (d'.extract 0 ss.toArray.size).toList = d'.toList := by rw [← p1]; simp
    have hp : d'.toList.Perm ss := by
      rw [hd] at p3
      simpa using p3
    have hlen : d'.toList.length = ss.length := hp.length_eq
    refine ⟨rfl, d'.toList, hp, ?_, ⟨_, cap, by rw [hlen], fun _ => ⟨g, rfl, fun i k hi => ?_⟩⟩, sw_below _ _ hb hbase⟩
    · rw [List.pairwise_iff_getElem]
      intro i j hi hj hij
      have := hS i j (Nat.zero_le _) hij (by simp at hj; rw [← p1]; exact hj)
      rw [getElem!_pos d' i (by simpa using hi), getElem!_pos d' j (by simpa using hj)] at this
      have e : ltOf kcmp d'[j] d'[i] = kb d'[j] d'[i] := by
        unfold ltOf
        rw [Bool.eq_iff_iff, decide_eq_true_eq]
        exact kcmp_neg _ _
      rw [e] at this
      simpa using this
    · have hh' := holdsK_iff.1 (holdsK_sortWorldK_c kc 2 w g 0 ss.toArray d' n os hH hg (by rw [p1])) i k (by simpa using hi)
      exact ⟨hh'.1.1, hh'.2.1⟩
set_option maxHeartbeats 1000000 in
theorem sortedFunc_any (Bm b : Nat) (kf : Crs → ByteArray × ByteArray) (cs : List Crs) (hl : cs.length ≤ 1000) (w : World) (hBm : Bm < w.heap.size) (hm : w.cell? ⟨Bm, 0, none⟩ = some (.map (some b))) (hown : MC w b kf cs) :
    Calls Try.prog 33 #[.func (.func 41) #[] #[.pointer (some ⟨Bm, 0, none⟩)], .func (.func 32) #[] #[]] w fun e w' =>
      ∃ v ss, e = .returned v ∧ ss.Perm (cs.map kf) ∧ (ss.Pairwise fun a b => kb b a = false) ∧ RowK w' v ss ∧ Below w.heap.size w w' := by
  have H := collect_any Bm b kf cs hl w hBm hm hown
  clear hm hown
  go_enter Try.func33, Try.ntmps33
  go_wp2_with fail
  refine H.mono ?_
  rintro e w1 ⟨v, ss, rfl, hS, hr, hn, hb⟩
  have hlen : ss.length ≤ 1000 := by have := hS.length_eq; simp at this; omega
  have H2 := sortFunc_any v ss w.heap.size w1 hr hb.size hn hlen
  have HS : Hid (ss.Perm (cs.map kf) ∧ Below w.heap.size w w1) := ⟨hS, hb⟩
  clear H hS hr hn hb
  go_wp2_with fail
  refine H2.mono ?_
  rintro e w2 ⟨rfl, ss', hp, hs, hr, hb⟩
  have HF : Hid (ss'.Perm (cs.map kf) ∧ (ss'.Pairwise fun a b => kb b a = false) ∧ RowK w2 v ss' ∧ Below w.heap.size w w2) := ⟨hp.trans HS.out.1, hs, hr, HS.out.2.trans hb⟩
  clear H2 hp hs hr hb
  go_wp2
  go_ret
  exact ⟨v, ss', rfl, HF.out⟩
end Go.Proofs.Ytfdfanleigcfpaa
