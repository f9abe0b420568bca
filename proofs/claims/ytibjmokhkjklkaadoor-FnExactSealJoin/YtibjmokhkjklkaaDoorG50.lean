/- Texts of ours put together: SlJ. -/
import Derived.Test.YtibjmokhkjklkaaDoorG48
import Derived.Test.YtibjmokhkjklkaaDoorG49
import Derived.Test.YtibjmokhkjklkaaDoorG10
namespace Go.Proofs.YtibjmokhkjklkaaDoor
open Go.ChangeShapes Go.WideShapes Go.ChangeAt Go.RowKit
set_option maxRecDepth 100000 in
set_option maxHeartbeats 4000000 in
theorem cloneN_any (c : List Int) (a : Option Addr) (ca : Nat) (w : World) (h : RowN w (.slice a c.length ca) c) (hl : c.length ≤ 1000000) :
    Calls Tryd.prog 32 #[.slice a c.length ca] w fun e w' => ∃ A C, e = .returned (.slice A c.length C) ∧ w'.ownsRow w.heap.size 2 1 (.slice A c.length C) c.length (c.map (Value.int .i64)) ∧ Below w.heap.size w w' := by
  cases a with
  | none =>
    have hc : c = [] := by
      obtain ⟨a', C', e, hc⟩ := h.shape
      cases e
      refine Classical.byContradiction fun g => ?_
      obtain ⟨_, _, e, _⟩ := hc g
      cases e
    subst hc
    clear h hl
    rw [List.length_nil]
    have he : ∀ w : World, (binOp .eql 24 (.slice none 0 ca) (.slice none 0 0)).run Tryd.prog w = .ok (.bool true) w := fun _ => rfl
    go_enter Tryd.func32, Tryd.ntmps32
    go_wp2
    go_ret
    exact ⟨none, 0, rfl, World.ownsRow_nil _ _ _ _, Below.refl _ _⟩
  | some ad =>
    have H : Hid (RowN w (.slice (some ad) c.length ca) c) := h
    clear h
    have hb0 : Below w.heap.size w (w.alloc (.cells #[] 2)) := (Below.refl _ _).alloc (Nat.le_refl _) _
    have ho0 := own0N w (B := w.heap.size) (Nat.le_refl _)
    have hr0 := H.out.below hb0
    have HB : Hid (Below w.heap.size w (w.alloc (.cells #[] 2))) := hb0
    clear hb0
    have he : ∀ w : World, (binOp .eql 24 (.slice (some ad) c.length ca) (.slice none 0 0)).run Tryd.prog w = .ok (.bool false) w := fun _ => rfl
    go_enter Tryd.func32, Tryd.ntmps32
    go_wp2_with (first | (at_builtin; refine wpList_clnN (by rfl) _ _ rfl rfl rfl ho0 hr0 (by omega) (by simp) ?_; rintro A1 C1 w1 hown1 hb1))
    have H1 : Hid (w1.ownsRow w.heap.size 2 1 (.slice A1 c.length C1) c.length (c.map (Value.int .i64)) ∧ Below w.heap.size w w1) := ⟨hown1, grown_newN hb1⟩
    clear hown1 hb1 ho0 hr0
    go_wp2
    go_ret
    exact ⟨A1, C1, rfl, H1.out⟩
theorem own_keep2 {W W' : World} {n K T B N len : Nat} {v : Value} {xs : List Value} (h : W.ownsRow n T K v len xs) (hk : KeepS B N W W') (hne : ∀ k, v.ownBlock = some k → k ≠ B ∧ k ≠ N) : W'.ownsRow n T K v len xs := by
  refine ⟨h.1, ?_⟩
  rcases h.2 with g | ⟨b, cap, cur, e, hb, hh, hr⟩
  · exact .inl g
  · subst e
    have := hne b rfl
    exact .inr ⟨b, cap, cur, rfl, hb, (hk.block b (Array.getElem?_eq_some_iff.1 hh).1 this.1 this.2).trans hh, hr⟩
theorem joinT_len (rs : List EvR) (c : List Int) (e : EvR) : (joinT rs c e).length ≤ 401 := by
  unfold joinT
  split
  · simp
  · split
    · rw [List.length_append]; simp; omega
    · omega
set_option maxHeartbeats 8000000 in
theorem sealJoin_impl (v : Value) (rs : List EvR) (c : List Int) (a : Option Addr) (ca : Nat) (e : EvR) (w : World) (h : RowEv w v rs) (hw : WrdAt w) (h' : RowN w (.slice a c.length ca) c) (hca : c.length ≤ ca) (hc2 : ca ≤ 9223372036854775807) :
    Calls Tryd.prog 21 #[v, .slice a c.length ca, .agg #[.int .i64 e.kind, .string e.a, .string e.b, .string e.c]] w fun x w' => ∃ u, x = .returned u ∧ w'.ownsRow w.heap.size 2 1 u (joinT rs c e).length ((joinT rs c e).map (Value.int .i64)) ∧ Below w.heap.size w w' := by
  obtain ⟨A, Cp, rfl⟩ := h.val
  have hlen := h.len
  have hlc := h'.len
  have h0 : w.heap.size ≠ 0 := by
    have := World.block_lt_of_cell? _ _ (hw 0 (by omega))
    omega
  obtain ⟨W0, hW0⟩ : ∃ W0, w.alloc (.cells #[.int .i64 e.kind, .string e.a, .string e.b, .string e.c] 40) = W0 := ⟨_, rfl⟩
  have hb0 : Below w.heap.size w W0 := by rw [← hW0]; exact (Below.refl _ _).alloc (Nat.le_refl _) _
  have k0 : W0.heap[w.heap.size]? = some (.cells #[.int .i64 e.kind, .string e.a, .string e.b, .string e.c] 40) := by rw [← hW0]; exact World.alloc_heap_new _ _
  have H0 : Hid (RowEv w (.slice A rs.length Cp) rs ∧ WrdAt w ∧ RowN w (.slice a c.length ca) c ∧ Below w.heap.size w W0 ∧ w.heap.size ≠ 0) := ⟨h, hw, h', hb0, h0⟩
  have HK : Hid (∀ W, Below W0.heap.size W0 W → W.heap[w.heap.size]? = some (.cells #[.int .i64 e.kind, .string e.a, .string e.b, .string e.c] 40)) := fun W hW => (hW.block _ (Array.getElem?_eq_some_iff.1 k0).1).trans k0
  obtain ⟨x0, x1, x2, x3⟩ := bx4e k0
  clear h hw h' hb0 k0 h0
  go_enter Tryd.func21, Tryd.ntmps21
  go_upto_region 1 with fail
  try rw [hW0]
  clear hW0
  by_cases hl1 : 400 < rs.length
  · have hl1' : (rs.length : Int) > 400 := by omega
    have HN : Hid (joinT rs c e = []) := joinT_none (.inl hl1)
    go_wp2
    go_ret
    exact ⟨_, rfl, by rw [HN.out]; exact World.ownsRow_nil _ _ _ _, H0.out.2.2.2.1⟩
  have hl1' : ¬ (rs.length : Int) > 400 := by omega
  by_cases hl2 : 400 < c.length
  · have hl2' : (c.length : Int) > 400 := by omega
    have HN : Hid (joinT rs c e = []) := joinT_none (.inr hl2)
    go_wp2
    go_ret
    exact ⟨_, rfl, by rw [HN.out]; exact World.ownsRow_nil _ _ _ _, H0.out.2.2.2.1⟩
  have hl2' : ¬ (c.length : Int) > 400 := by omega
  go_wp2_with fail
  refine (cloneN_any c a ca _ (H0.out.2.2.1.below H0.out.2.2.2.1) (by omega)).mono ?_
  rintro x w1 ⟨A1, C1, rfl, ho1, hb1⟩
  have H1 : Hid (w1.ownsRow w.heap.size 2 1 (.slice A1 c.length C1) c.length (c.map (Value.int .i64)) ∧ Below W0.heap.size W0 w1 ∧ Below w.heap.size w w1) := ⟨own_lower ho1 H0.out.2.2.2.1.size, hb1, H0.out.2.2.2.1.trans (hb1.mono H0.out.2.2.2.1.size)⟩
  clear ho1 hb1 x0 x1 x2 x3
  obtain ⟨x0, x1, x2, x3⟩ := bx4e (HK.out _ H1.out.2.1)
  by_cases hl3 : rs.length < 60
  case neg =>
    have hl3' : ¬ (rs.length : Int) < 60 := by omega
    have HN : Hid (joinT rs c e = c) := joinT_same hl1 hl2 (by omega)
    go_wp2
    go_ret
    exact ⟨_, rfl, by rw [HN.out]; exact H1.out.1, H1.out.2.2⟩
  have hl3' : (rs.length : Int) < 60 := by omega
  have QE := fun W => eventRight_impl e W
  obtain ⟨y, hy⟩ : ∃ y, y = evB e := ⟨_, rfl⟩
  have HY : Hid (y = evB e) := hy
  rw [← hy] at QE
  clear hy
  go_wp2_with fail
  refine (QE _).mono ?_
  rintro x w2 ⟨rfl, hb2⟩
  have H2 : Hid (w2.ownsRow w.heap.size 2 1 (.slice A1 c.length C1) c.length (c.map (Value.int .i64)) ∧ Below W0.heap.size W0 w2 ∧ Below w.heap.size w w2) := ⟨own1_below H1.out.1 hb2, H1.out.2.1.trans (hb2.mono H1.out.2.1.size), H1.out.2.2.trans (hb2.mono H1.out.2.2.size)⟩
  clear hb2 QE x0 x1 x2 x3
  cases y with
  | false =>
    have HN : Hid (joinT rs c e = c) := joinT_same hl1 hl2 (fun g => by have := HY.out; rw [g.2.1] at this; cases this)
    go_wp2
    go_ret
    exact ⟨_, rfl, by rw [HN.out]; exact H2.out.1, H2.out.2.2⟩
  | true =>
  have QS := isSealedBy_any (.slice A rs.length Cp) rs c a ca w2 (H0.out.1.below H2.out.2.2) (H0.out.2.1.below H2.out.2.2) (H0.out.2.2.1.below H2.out.2.2) hca hc2
  obtain ⟨y, hy⟩ : ∃ y, y = (faultT rs c == -1) := ⟨_, rfl⟩
  have HS : Hid (y = (faultT rs c == -1)) := hy
  rw [← hy] at QS
  clear hy
  go_wp2_with fail
  refine QS.mono ?_
  rintro x w3 ⟨rfl, hb3⟩
  have H3 : Hid (w3.ownsRow w.heap.size 2 1 (.slice A1 c.length C1) c.length (c.map (Value.int .i64)) ∧ Below W0.heap.size W0 w3 ∧ Below w.heap.size w w3) := ⟨own1_below H2.out.1 hb3, H2.out.2.1.trans (hb3.mono H2.out.2.1.size), H2.out.2.2.trans (hb3.mono H2.out.2.2.size)⟩
  clear hb3 QS
  cases y with
  | false =>
    have HN : Hid (joinT rs c e = c) := joinT_same hl1 hl2 (fun g => by have := HS.out; rw [g.2.2] at this; cases this)
    go_wp2
    go_ret
    exact ⟨_, rfl, by rw [HN.out]; exact H3.out.1, H3.out.2.2⟩
  | true =>
  obtain ⟨z, hz⟩ : ∃ z, z = c.getLastD 1 := ⟨_, rfl⟩
  obtain ⟨y, hy⟩ : ∃ y, y = sealT z (evX e) := ⟨_, rfl⟩
  have HN : Hid (joinT rs c e = c ++ [y] ∧ EvOk e) := ⟨by rw [hy, hz]; exact joinT_yes hl3 hl2 HY.out.symm (by have := HS.out.symm; simpa using this), evB_iff.1 HY.out.symm⟩
  have QL := lastOf_any c a ca w3 (H0.out.2.2.1.below H3.out.2.2)
  rw [← hz] at QL
  clear hz HS HY
  go_wp2_with fail
  refine QL.mono ?_
  rintro x w4 ⟨rfl, hb4⟩
  have H4 : Hid (w4.ownsRow w.heap.size 2 1 (.slice A1 c.length C1) c.length (c.map (Value.int .i64)) ∧ Below W0.heap.size W0 w4 ∧ Below w.heap.size w w4) := ⟨own1_below H3.out.1 hb4, H3.out.2.1.trans (hb4.mono H3.out.2.1.size), H3.out.2.2.trans (hb4.mono H3.out.2.2.size)⟩
  clear hb4 QL
  go_wp2_with fail
  refine (sealsFrom_any z w4).mono ?_
  rintro x w5 ⟨r, B, N, S, rfl, hS, hb5, hB, hN, hN2, hS2⟩
  have H5 : Hid (w5.ownsRow w.heap.size 2 1 (.slice A1 c.length C1) c.length (c.map (Value.int .i64)) ∧ Below W0.heap.size W0 w5 ∧ Below w.heap.size w w5 ∧ Sl r B N S z w5 ∧ (∀ k, (Value.slice A1 c.length C1).ownBlock = some k → k ≠ B ∧ k ≠ N) ∧ w.heap.size ≤ B ∧ w.heap.size ≤ N) := ⟨own1_below H4.out.1 hb5, H4.out.2.1.trans (hb5.mono H4.out.2.1.size), H4.out.2.2.trans (hb5.mono H4.out.2.2.size), hS (by have := H4.out.2.2.size; have := H0.out.2.2.2.2; omega), fun k hk => by have := (H4.out.1.lt k hk).2; omega, by have := H4.out.2.2.size; omega, by have := H4.out.2.2.size; omega⟩
  clear hS hb5 hB hN hN2 hS2
  have HQ := seal_any B N S z e HN.out.2 w5 H5.out.2.2.2.1 (H0.out.2.1.below H5.out.2.2.1)
  rw [← hy] at HQ
  clear hy
  obtain ⟨x0, x1, x2, x3⟩ := bx4e (HK.out _ H5.out.2.1)
  go_wp2_with fail
  refine HQ.mono ?_
  rintro x w6 ⟨rfl, _, hk6⟩
  have H6 : Hid (w6.ownsRow w.heap.size 2 1 (.slice A1 c.length C1) c.length (c.map (Value.int .i64)) ∧ Below w.heap.size w w6) := ⟨own_keep2 H5.out.1 hk6 H5.out.2.2.2.2.1, hk6.below H5.out.2.2.1 H5.out.2.2.2.2.2.1 H5.out.2.2.2.2.2.2 H5.out.2.2.1.size⟩
  clear hk6 HQ x0 x1 x2 x3
  have hrow := H6.out.1.alloc (.cells #[.int .i64 y] 2)
  have hcell := (bx1S (World.alloc_heap_new w6 (.cells #[.int .i64 y] 2))).1
  have hsz := H6.out.2.size
  go_wp2_with (first | (at_builtin; refine wpList_appN rfl _ _ rfl rfl rfl hrow hcell (by omega) (by simp; omega) ?_; rintro v7 w7 hown7 hgrow7 ⟨A7, C7, rfl⟩))
  have H7 : Hid (w7.ownsRow w.heap.size 2 1 (.slice A7 (c.length + 1) C7) (c ++ [y]).length ((c ++ [y]).map (Value.int .i64)) ∧ Below w.heap.size w w7) := ⟨hown7, appN_below H6.out.2 (Nat.le_refl _) H6.out.1 hgrow7⟩
  clear hown7 hgrow7 hrow hcell
  go_wp2
  go_ret
  exact ⟨_, rfl, by rw [HN.out.1]; exact H7.out.1, H7.out.2⟩
end Go.Proofs.YtibjmokhkjklkaaDoor
