/- Texts of ours put together: MarkL, OpenS, OpenPI, SzS. -/
import Derived.Test.YtcdebinldmblkaaGreatDoorG48
import Derived.Test.YtcdebinldmblkaaGreatDoorG05
import Derived.Test.YtcdebinldmblkaaGreatDoorG07
import Derived.Deep.RegionHeld3
import Derived.Test.YtcdebinldmblkaaGreatDoorG04
import Derived.Deep.Slices
import Derived.SliceStrings
import Derived.Lib.SmallJoins
import Derived.Test.YtcdebinldmblkaaGreatDoorG20
namespace Go.Proofs.YtcdebinldmblkaaGreatDoor
open Go.ChangeShapes Go.WideShapes Go.ChangeAt Go.RowKit
/-- How many marks a list of segments takes ahead of one. -/
def offL (gs : List Seg) (i : Nat) : Nat := ((gs.take i).map fun g => 1 + offE g.2 g.2.length).sum
theorem offL_zero (gs : List Seg) : offL gs 0 = 0 := by simp [offL]
theorem offL_succ {gs : List Seg} {i : Nat} {g : Seg} (h : gs[i]? = some g) : offL gs (i + 1) = offL gs i + 1 + offE g.2 g.2.length := by
  unfold offL
  rw [List.take_add_one, h]
  simp
  omega
/-- Bounds of what was read. -/
def BdLg (gs : List Seg) : Prop := ∀ g ∈ gs, BdX g.2 ∧ g.2.length ≤ 10 ∧ g.1.size = 3
theorem offL_le {gs : List Seg} (hX : BdLg gs) : ∀ i, i ≤ gs.length → offL gs i ≤ 41 * i := by
  intro i
  induction i with
  | zero => intro _; simp [offL]
  | succ i ih =>
    intro hi
    have hlt : i < gs.length := by omega
    rw [offL_succ (List.getElem?_eq_getElem hlt)]
    have := ih (by omega)
    have h1 := hX gs[i] (List.getElem_mem hlt)
    have := offE_le h1.1 gs[i].2.length (Nat.le_refl _)
    omega
theorem MkE.same {k0 : Nat} {W W' : World} {v : Value} {vals : List Value} {es : List (List ByteArray)} (h : MkE k0 W v vals es) (hs : ∀ x ∈ v :: vals, ∀ g, x.ownBlock = some g → W'.heap[g]? = W.heap[g]?) : MkE k0 W' v vals es := by
  obtain ⟨A, C, hv, hA⟩ := h.at_
  refine ⟨h.len, ⟨A, C, hv, fun h0 => ?_⟩, fun i u e hu he => ?_⟩
  · obtain ⟨b, hb1, hb2⟩ := hA h0
    exact ⟨b, hb1, fun i u hu => (World.cell?_of_block (w := W) (hs v (by simp) b (by rw [hv, hb1]; rfl))).trans (hb2 i u hu)⟩
  · obtain ⟨g, cap, e1, e2⟩ := h.parts i u e hu he
    exact ⟨g, cap, e1, fun j hj => (World.cell?_of_block (w := W) (hs u (by simp [List.mem_of_getElem? hu]) g (by rw [e1]; rfl))).trans (e2 j hj)⟩
/-- Tags and parts hold the marks from k0 on. -/
structure MkL (k0 : Nat) (W : World) (v : Value) (ps : List (Value × List Value)) (gs : List Seg) : Prop where
  len : ps.length = gs.length
  at_ : ∃ A C, v = .slice A gs.length C ∧ (0 < gs.length → ∃ b, A = some ⟨b, 0, none⟩ ∧ ∀ (i : Nat) (p : Value × List Value), ps[i]? = some p → W.cell? ⟨b, i * 2, none⟩ = some (.string (mt (k0 + offL gs i))) ∧ W.cell? ⟨b, i * 2 + 1, none⟩ = some p.1)
  segs : ∀ (i : Nat) (p : Value × List Value) (g : Seg), ps[i]? = some p → gs[i]? = some g → MkE (k0 + offL gs i + 1) W p.1 p.2 g.2
theorem MkL.below {k0 : Nat} {W W' : World} {v : Value} {ps : List (Value × List Value)} {gs : List Seg} (h : MkL k0 W v ps gs) (hb : Below W.heap.size W W') : MkL k0 W' v ps gs := by
  obtain ⟨A, C, hv, hA⟩ := h.at_
  refine ⟨h.len, ⟨A, C, hv, fun h0 => ?_⟩, fun i p g hp hg => (h.segs i p g hp hg).below hb⟩
  obtain ⟨b, hb1, hb2⟩ := hA h0
  exact ⟨b, hb1, fun i p hp => ⟨(hb.cell (p := ⟨b, i * 2, none⟩) (cell_lt (hb2 i p hp).1)).trans (hb2 i p hp).1, (hb.cell (p := ⟨b, i * 2 + 1, none⟩) (cell_lt (hb2 i p hp).2)).trans (hb2 i p hp).2⟩⟩
/-- What is no row of texts and no row of segments lies as it lay. -/
def KeepS (w w' : World) : Prop := ∀ k, k < w.heap.size → (∀ c, w.heap[k]? ≠ some (.cells c 9 (0, 0))) → (∀ c, w.heap[k]? ≠ some (.cells c 46 (0, 0))) → w'.heap[k]? = w.heap[k]?
/-- What stands when m segments are marked. -/
structure MI (n₀ k0 b m : Nat) (w W : World) (ps : List (Value × List Value)) (gs : List Seg) : Prop where
  tags : ∀ (i : Nat) (p : Value × List Value), ps[i]? = some p → (∃ t, W.cell? ⟨b, i * 2, none⟩ = some (.string t)) ∧ W.cell? ⟨b, i * 2 + 1, none⟩ = some p.1
  fz : 0 < gs.length → ∀ o, W.frozen? ⟨b, o, none⟩ = false
  done : ∀ (i : Nat) (p : Value × List Value) (g : Seg), ps[i]? = some p → gs[i]? = some g → i < m → W.cell? ⟨b, i * 2, none⟩ = some (.string (mt (k0 + offL gs i))) ∧ MkE (k0 + offL gs i + 1) W p.1 p.2 g.2
  todo : ∀ (i : Nat) (p : Value × List Value) (g : Seg), ps[i]? = some p → gs[i]? = some g → m ≤ i → OwnV n₀ W p.1 p.2 g.2
  bel : Below n₀ w W
  keep : KeepS w W
theorem MI.below {n₀ k0 b m : Nat} {w W W' : World} {ps : List (Value × List Value)} {gs : List Seg} (h : MI n₀ k0 b m w W ps gs) (hn : n₀ ≤ w.heap.size) (hb : Below W.heap.size W W') (hbl : 0 < gs.length → b < W.heap.size) : MI n₀ k0 b m w W' ps gs :=
  ⟨fun i p hp => ⟨(h.tags i p hp).1.imp fun _ ht => (hb.cell (p := ⟨b, i * 2, none⟩) (cell_lt ht)).trans ht, (hb.cell (p := ⟨b, i * 2 + 1, none⟩) (cell_lt (h.tags i p hp).2)).trans (h.tags i p hp).2⟩,
    fun h0 o => (hb.frozen (p := ⟨b, o, none⟩) (hbl h0)).trans (h.fz h0 o),
    fun i p g hp hg hi => ⟨(hb.cell (p := ⟨b, i * 2, none⟩) (cell_lt (h.done i p g hp hg hi).1)).trans (h.done i p g hp hg hi).1, (h.done i p g hp hg hi).2.below hb⟩,
    fun i p g hp hg hi => (h.todo i p g hp hg hi).below hb, h.bel.trans (hb.mono (Nat.le_trans hn h.bel.size)), fun k hk h1 h2 => (hb.block k (Nat.lt_of_lt_of_le hk h.bel.size)).trans (h.keep k hk h1 h2)⟩
theorem MI.tag {n₀ k0 b m : Nat} {w W : World} {ps : List (Value × List Value)} {gs : List Seg} (h : MI n₀ k0 b m w W ps gs) (hb : n₀ ≤ b) (hty : ∃ c, w.heap[b]? = some (.cells c 46 (0, 0)))
    (hO : ∀ (i : Nat) (p : Value × List Value) (g : Seg), ps[i]? = some p → gs[i]? = some g → OwnV n₀ w p.1 p.2 g.2) (p : Value × List Value) (hp : ps[m]? = some p) (t : ByteArray) :
    MI n₀ k0 b m w (W.setCell ⟨b, m * 2, none⟩ (.string t)) ps gs ∧ (W.setCell ⟨b, m * 2, none⟩ (.string t)).cell? ⟨b, m * 2, none⟩ = some (.string t) := by
  obtain ⟨c0, hc0⟩ := hty
  have hne : ∀ (i : Nat) (p : Value × List Value) (g : Seg), ps[i]? = some p → gs[i]? = some g → ∀ x ∈ p.1 :: p.2, x.ownBlock ≠ some b := fun i p g hp hg x hx e => by
    have hOv := hO i p g hp hg
    rcases List.mem_cons.1 hx with rfl | hx
    · obtain ⟨_, _, c, h2⟩ := row_at hOv.row e
      rw [hc0] at h2
      simp at h2
    · obtain ⟨j, hj⟩ := List.getElem?_of_mem hx
      have hlt := (List.getElem?_eq_some_iff.1 hj).1
      rw [hOv.len] at hlt
      obtain ⟨_, _, c, h2⟩ := row_at (hOv.parts j x _ hj (List.getElem?_eq_getElem hlt)).1 e
      rw [hc0] at h2
      simp at h2
  have hsame : (W.setCell ⟨b, m * 2, none⟩ (.string t)).cell? ⟨b, m * 2, none⟩ = some (.string t) := World.cell?_setCell_same' _ _ _ (by obtain ⟨t0, ht0⟩ := (h.tags m p hp).1; rw [ht0]; rfl)
  refine ⟨⟨fun i q hq => ⟨?_, ?_⟩, fun h0 o => by rw [World.frozen?_setCell]; exact h.fz h0 o, fun i q g hq hg hi => ⟨?_, ?_⟩, fun i q g hq hg hi => ?_, h.bel.setCell hb _, fun k hk h1 h2 => (Below.heap_setCell W ⟨b, m * 2, none⟩ _ k (show k ≠ b from fun e => h2 c0 (by rw [e]; exact hc0))).trans (h.keep k hk h1 h2)⟩, hsame⟩
  · by_cases e : i = m
    · subst e
      exact ⟨t, hsame⟩
    · rw [World.cell?_setCell_other _ _ _ _ (by simp <;> omega)]
      exact (h.tags i q hq).1
  · rw [World.cell?_setCell_other _ _ _ _ (by simp <;> omega)]
    exact (h.tags i q hq).2
  · rw [World.cell?_setCell_other _ _ _ _ (by simp <;> omega)]
    exact (h.done i q g hq hg hi).1
  · exact (h.done i q g hq hg hi).2.same fun x hx k hk => Below.heap_setCell W ⟨b, m * 2, none⟩ _ k (show k ≠ b from fun e => hne i q g hq hg x hx (by rw [hk, e]))
  · have hOv := h.todo i q g hq hg hi
    refine ⟨hOv.len, row_same hOv.row fun k hk => Below.heap_setCell W ⟨b, m * 2, none⟩ _ k (show k ≠ b from fun e => hne i q g hq hg q.1 (by simp) (by rw [hk, e])), fun j u y hu hy => ⟨row_same (hOv.parts j u y hu hy).1 fun k hk => Below.heap_setCell W ⟨b, m * 2, none⟩ _ k (show k ≠ b from fun e => hne i q g hq hg u (by simp [List.mem_of_getElem? hu]) (by rw [hk, e])), (hOv.parts j u y hu hy).2⟩, hOv.apart⟩
theorem MI.next {n₀ k0 b m : Nat} {w W W' : World} {ps : List (Value × List Value)} {gs : List Seg} (h : MI n₀ k0 b m w W ps gs) (hty : ∃ c, w.heap[b]? = some (.cells c 46 (0, 0))) (hbl : b < W.heap.size)
    (hO : ∀ (i : Nat) (p : Value × List Value) (g : Seg), ps[i]? = some p → gs[i]? = some g → OwnV n₀ w p.1 p.2 g.2) (hsep : ∀ (i j : Nat) (p q : Value × List Value), i < j → ps[i]? = some p → ps[j]? = some q → ∀ x ∈ p.1 :: p.2, ∀ y ∈ q.1 :: q.2, ∀ b, x.ownBlock = some b → y.ownBlock ≠ some b)
    (p : Value × List Value) (g : Seg) (hp : ps[m]? = some p) (hg : gs[m]? = some g) (htag : W.cell? ⟨b, m * 2, none⟩ = some (.string (mt (k0 + offL gs m)))) (hm : MkE (k0 + offL gs m + 1) W' p.1 p.2 g.2) (hb : Below n₀ W W') (hk : KeepV p.2 W W') : MI n₀ k0 b (m + 1) w W' ps gs := by
  obtain ⟨c0, hc0⟩ := hty
  have hvals : ∀ x ∈ p.2, ∀ k, x.ownBlock = some k → ∃ c, w.heap[k]? = some (.cells c 9 (0, 0)) := fun x hx k e => by
    have hOv := hO m p g hp hg
    obtain ⟨j, hj⟩ := List.getElem?_of_mem hx
    have hlt := (List.getElem?_eq_some_iff.1 hj).1
    rw [hOv.len] at hlt
    obtain ⟨_, _, c, h2⟩ := row_at (hOv.parts j x _ hj (List.getElem?_eq_getElem hlt)).1 e
    exact ⟨c, h2⟩
  have hB : W'.heap[b]? = W.heap[b]? := hk b hbl fun x hx e => by
    obtain ⟨c, hc⟩ := hvals x hx b e
    rw [hc0] at hc
    simp at hc
  have hcell : ∀ o, W'.cell? ⟨b, o, none⟩ = W.cell? ⟨b, o, none⟩ := fun o => World.cell?_of_block (w := W) hB
  have hoth : ∀ (i : Nat) (q : Value × List Value), i ≠ m → ps[i]? = some q → ∀ x ∈ q.1 :: q.2, ∀ k, x.ownBlock = some k → k < W.heap.size → W'.heap[k]? = W.heap[k]? := fun i q hi hq x hx k e hkl => hk k hkl fun y hy e2 => by
    rcases Nat.lt_or_ge i m with h1 | h1
    · exact hsep i m q p h1 hq hp x hx y (List.mem_cons_of_mem _ hy) k e e2
    · exact hsep m i p q (by omega) hp hq y (List.mem_cons_of_mem _ hy) x hx k e2 e
  refine ⟨fun i q hq => ⟨(h.tags i q hq).1.imp fun _ ht => (hcell _).trans ht, (hcell _).trans (h.tags i q hq).2⟩, fun h0 o => (World.frozen?_of_block (w := W) hB).trans (h.fz h0 o), fun i q y hq hy hi => ?_, fun i q y hq hy hi => ?_, h.bel.trans hb, fun k hk' h1 h2 => (hk k (Nat.lt_of_lt_of_le hk' h.bel.size) fun x hx e => ?_).trans (h.keep k hk' h1 h2)⟩
  · by_cases e : i = m
    · subst e
      rw [hp] at hq
      rw [hg] at hy
      cases hq
      cases hy
      exact ⟨(hcell _).trans htag, hm⟩
    · have hd := h.done i q y hq hy (by omega)
      refine ⟨(hcell _).trans hd.1, hd.2.same fun x hx k hk' => hoth i q e hq x hx k hk' ?_⟩
      have := (hO i q y hq hy).base x hx k hk'
      exact Nat.lt_of_lt_of_le this.2 h.bel.size
  · have ht := h.todo i q y hq hy (by omega)
    refine ⟨ht.len, row_same ht.row fun k hk' => hoth i q (by omega) hq q.1 (by simp) k hk' (row_at ht.row hk').2.1, fun j u z hu hz => ⟨row_same (ht.parts j u z hu hz).1 fun k hk' => hoth i q (by omega) hq u (by simp [List.mem_of_getElem? hu]) k hk' (row_at (ht.parts j u z hu hz).1 hk').2.1, (ht.parts j u z hu hz).2⟩, ht.apart⟩
  · obtain ⟨c, hc⟩ := hvals x hx k e
    exact h1 c hc
set_option maxRecDepth 20000 in
set_option maxHeartbeats 2000000 in
theorem markL_any (v : Value) (ps : List (Value × List Value)) (gs : List Seg) (n₀ k0 : Nat) (w : World) (h : OwnL n₀ w v ps gs) (hX : BdLg gs) (hl : gs.length ≤ 2400) (hn : n₀ ≤ w.heap.size) (hk0 : 0 < k0) (hk1 : k0 ≤ 10) :
    Calls Tryz.prog 11 #[v, .int .i64 k0] w fun e w' => e = .returned (.int .i64 ((k0 + offL gs gs.length : Nat) : Int)) ∧ MkL k0 w' v ps gs ∧ Below n₀ w w' ∧ KeepS w w' := by
  have HO : Hid (OwnL n₀ w v ps gs ∧ BdLg gs) := ⟨h, hX⟩
  obtain ⟨A, C, rfl⟩ := h.slice
  obtain ⟨b, hA, hbn, hbt⟩ : ∃ b, (0 < gs.length → A = some ⟨b, 0, none⟩) ∧ (0 < gs.length → n₀ ≤ b ∧ b < w.heap.size) ∧ (0 < gs.length → ∃ c, w.heap[b]? = some (.cells c 46 (0, 0))) := by
    rcases h.row.2 with ⟨_, h0⟩ | ⟨g, cap, cur, e, hb, hgb, _⟩
    · exact ⟨0, fun h => by omega, fun h => by omega, fun h => by omega⟩
    · simp at e
      exact ⟨g, fun _ => e.1, fun _ => ⟨hb, (Array.getElem?_eq_some_iff.1 hgb).1⟩, fun _ => ⟨_, hgb⟩⟩
  have hI0 : MI n₀ k0 b 0 w w ps gs := by
    refine ⟨fun i p hp => ?_, fun h0 o => ?_, fun i p g _ _ hi => by omega, fun i p g hp hg _ => h.segs i p g hp hg, Below.refl _ _, fun _ _ _ _ => rfl⟩
    · have hi : i < gs.length := by rw [← h.len]; exact (List.getElem?_eq_some_iff.1 hp).1
      obtain ⟨k1, k2⟩ := cellsL_get (List.getElem?_eq_getElem hi) hp
      have e := hA (by omega)
      subst e
      have a1 := h.row.cells (g := b) rfl (i * 2) _ k1
      have a2 := h.row.cells (g := b) rfl (i * 2 + 1) _ k2
      rw [addr0] at a1 a2
      exact ⟨⟨_, a1⟩, a2⟩
    · obtain ⟨c, hc⟩ := hbt h0
      simp [World.frozen?, hc]
  have HI0 : Hid (MI n₀ k0 b 0 w w ps gs) := hI0
  have HB : Hid ((0 < gs.length → A = some ⟨b, 0, none⟩) ∧ (0 < gs.length → n₀ ≤ b ∧ b < w.heap.size) ∧ (0 < gs.length → ∃ c, w.heap[b]? = some (.cells c 46 (0, 0)))) := ⟨hA, hbn, hbt⟩
  clear h hX hI0 hA hbn hbt
  go_enter Tryz.func11, Tryz.ntmps11
  go_wp2
  go_loopw [1, 5] (fun kv i wr => ∃ m : Nat, m ≤ gs.length ∧ i = .int .i64 m ∧ kv = .int .i64 ((k0 + offL gs m : Nat) : Int) ∧ MI n₀ k0 b m w wr ps gs) (fun _ i _ => gs.length - (intOf i).toNat)
  case atStart => exact ⟨0, Nat.zero_le _, rfl, by simp [offL_zero], HI0.out⟩
  case round =>
    obtain ⟨m, hm, rfl, rfl, hI⟩ := hrel
    have hof := offL_le HO.out.2 m hm
    clear HI0
    by_cases hlt : m < gs.length
    · have hlt' : (m : Int) < (gs.length : Int) := by omega
      obtain ⟨g, hg⟩ : ∃ g, gs[m]? = some g := ⟨_, List.getElem?_eq_getElem hlt⟩
      obtain ⟨p, hp⟩ : ∃ p, ps[m]? = some p := ⟨_, List.getElem?_eq_getElem (by rw [HO.out.1.len]; exact hlt)⟩
      have hgX := HO.out.2 g (List.mem_of_getElem? hg)
      have hA := HB.out.1 (by omega)
      subst hA
      obtain ⟨hbn, hbw⟩ := HB.out.2.1 (by omega)
      have HI : Hid (MI n₀ k0 b m w wr ps gs ∧ gs[m]? = some g ∧ ps[m]? = some p) := ⟨hI, hg, hp⟩
      have hwr := hI.bel.size
      clear hI hg hp
      go_wp2_with fail
      refine (markText_any (k0 + offL gs m) _ (by omega) (by omega)).mono ?_
      rintro e w2 ⟨rfl, hb2⟩
      have hI2 := HI.out.1.below hn hb2 (fun _ => by omega)
      have hw2 := hb2.size
      obtain ⟨⟨t0, ct⟩, cu⟩ := hI2.tags m p HI.out.2.2
      have zt := hI2.fz (by omega)
      obtain ⟨hI3, ct3⟩ := hI2.tag hbn (HB.out.2.2 (by omega)) HO.out.1.segs p HI.out.2.2 (mt (k0 + offL gs m))
      have cu3 := (hI3.tags m p HI.out.2.2).2
      have hOv := hI3.todo m p g HI.out.2.2 HI.out.2.1 (Nat.le_refl _)
      obtain ⟨Av, Cv, hv, _⟩ := hOv.slice
      have HI3 : Hid (MI n₀ k0 b m w (w2.setCell ⟨b, m * 2, none⟩ (.string (mt (k0 + offL gs m)))) ps gs ∧ (w2.setCell ⟨b, m * 2, none⟩ (.string (mt (k0 + offL gs m)))).cell? ⟨b, m * 2, none⟩ = some (.string (mt (k0 + offL gs m))) ∧ OwnV n₀ (w2.setCell ⟨b, m * 2, none⟩ (.string (mt (k0 + offL gs m)))) p.1 p.2 g.2) := ⟨hI3, ct3, hOv⟩
      rw [hv] at cu cu3
      have HV : Hid (p.1 = .slice Av g.2.length Cv) := hv
      clear hI2 hI3 ct3 hOv hb2 hv
      go_wp2_with fail
      rw [← HV.out]
      refine (markV_any p.1 p.2 g.2 n₀ (k0 + offL gs m + 1) _ HI3.out.2.2 hgX.1 hgX.2.1 (by simp; omega) (by omega) (by omega)).mono ?_
      rintro e w4 ⟨rfl, hm4, hb4, hk4⟩
      have HN : Hid (MI n₀ k0 b (m + 1) w w4 ps gs ∧ offL gs (m + 1) = offL gs m + 1 + offE g.2 g.2.length) := ⟨HI3.out.1.next (HB.out.2.2 (by omega)) (by simp; omega) HO.out.1.segs HO.out.1.sep p g HI.out.2.2 HI.out.2.1 HI3.out.2.1 hm4 hb4 hk4, offL_succ HI.out.2.1⟩
      clear hm4 hb4 hk4 HI HI3
      go_wp2
      go_roundw
      case rel => exact ⟨m + 1, by omega, by go_num, by rw [HN.out.2]; congr 1; omega, HN.out.1⟩
      case measure => simp [intOf]; omega
    · have hge : (gs.length : Int) ≤ (m : Int) := by omega
      obtain rfl : m = gs.length := by omega
      have HI : Hid (MI n₀ k0 b gs.length w wr ps gs) := hI
      clear hI
      go_wp2
      go_ret
      refine ⟨rfl, ⟨HO.out.1.len, ⟨A, C, rfl, fun h0 => ⟨b, HB.out.1 h0, fun i p hp => ?_⟩⟩, fun i p g hp hg => (HI.out.done i p g hp hg (List.getElem?_eq_some_iff.1 hg).1).2⟩, HI.out.bel, HI.out.keep⟩
      have hi : i < gs.length := by rw [← HO.out.1.len]; exact (List.getElem?_eq_some_iff.1 hp).1
      exact ⟨(HI.out.done i p _ hp (List.getElem?_eq_getElem hi) hi).1, (HI.out.tags i p hp).2⟩
set_option maxRecDepth 20000 in
set_option maxHeartbeats 2000000 in
theorem heldL_any (v : Value) (ps : List (Value × List Value)) (gs : List Seg) (k0 : Nat) (w : World) (h : MkL k0 w v ps gs) (hX : BdLg gs) (hl : gs.length ≤ 2400) (hk0 : 0 < k0) (hk1 : k0 ≤ 10) :
    Calls Tryz.prog 12 #[v, .int .i64 k0] w fun e w' => e = .returned (.int .i64 ((k0 + offL gs gs.length : Nat) : Int)) ∧ Below w.heap.size w w' := by
  have HO : Hid (MkL k0 w v ps gs ∧ BdLg gs) := ⟨h, hX⟩
  obtain ⟨A, C, rfl, _⟩ := h.at_
  clear h hX
  go_enter Tryz.func12, Tryz.ntmps12
  go_wp2
  go_loopw [1, 5] (fun kv i wr => ∃ m : Nat, m ≤ gs.length ∧ i = .int .i64 m ∧ kv = .int .i64 ((k0 + offL gs m : Nat) : Int) ∧ Below w.heap.size w wr) (fun _ i _ => gs.length - (intOf i).toNat)
  case atStart => exact ⟨0, Nat.zero_le _, rfl, by simp [offL_zero], Below.refl _ _⟩
  case round =>
    obtain ⟨m, hm, rfl, rfl, hb⟩ := hrel
    have hof := offL_le HO.out.2 m hm
    by_cases hlt : m < gs.length
    · have hlt' : (m : Int) < (gs.length : Int) := by omega
      have hK := HO.out.1.below hb
      obtain ⟨g, hg⟩ : ∃ g, gs[m]? = some g := ⟨_, List.getElem?_eq_getElem hlt⟩
      obtain ⟨p, hp⟩ : ∃ p, ps[m]? = some p := ⟨_, List.getElem?_eq_getElem (by rw [HO.out.1.len]; exact hlt)⟩
      have hgX := HO.out.2 g (List.mem_of_getElem? hg)
      obtain ⟨A', C', hv, hA⟩ := hK.at_
      obtain ⟨b, hA', hc'⟩ := hA (by omega)
      simp at hv
      obtain ⟨rfl, rfl⟩ := hv
      subst hA'
      obtain ⟨ct, cu⟩ := hc' m p hp
      have hbl := cell_lt ct
      have hmk := hK.segs m p g hp hg
      obtain ⟨Av, Cv, hv, _⟩ := hmk.at_
      rw [hv] at cu
      have HS : Hid (MkE (k0 + offL gs m + 1) wr p.1 p.2 g.2 ∧ Below w.heap.size w wr ∧ offL gs (m + 1) = offL gs m + 1 + offE g.2 g.2.length ∧ p.1 = .slice Av g.2.length Cv) := ⟨hmk, hb, offL_succ hg, hv⟩
      clear hK hmk hb hg hp hA hc' hv
      go_wp2_with fail
      go_region_held3 (fun W => W.cell? ⟨b, m * 2, none⟩ = some (.string (mt (k0 + offL gs m)))) (go_keep) (first | (go_at_call 26; refine (markText_any (k0 + offL gs m) _ (by omega) (by omega)).mono ?_; rintro e w3 ⟨rfl, hb3⟩; have ku3 := (hb3.cell (p := ⟨b, m * 2, none⟩) hbl).trans (show wr.drew.cell? ⟨b, m * 2, none⟩ = _ from ct)))
      have hb3' : Below wr.heap.size wr w3 := (Below.refl _ _).drew.trans hb3
      have cu3 : w3.cell? ⟨b, m * 2 + 1, none⟩ = some (.slice Av g.2.length Cv) := (hb3'.cell (p := ⟨b, m * 2 + 1, none⟩) hbl).trans cu
      have HT : Hid (MkE (k0 + offL gs m + 1) w3 p.1 p.2 g.2 ∧ Below w.heap.size w w3) := ⟨HS.out.1.below hb3', HS.out.2.1.trans (hb3'.mono HS.out.2.1.size)⟩
      clear hb3 hb3'
      go_wp2_with fail
      rw [← HS.out.2.2.2]
      refine (heldE_any p.1 p.2 g.2 (k0 + offL gs m + 1) _ HT.out.1 hgX.1 hgX.2.1 (by omega) (by omega)).mono ?_
      rintro e1 w4 ⟨rfl, hb4⟩
      have HN : Hid (Below w.heap.size w w4 ∧ offL gs (m + 1) = offL gs m + 1 + offE g.2 g.2.length) := ⟨HT.out.2.trans (hb4.mono HT.out.2.size), HS.out.2.2.1⟩
      clear HS HT hb4
      go_wp2
      go_roundw
      case rel => exact ⟨m + 1, by omega, by go_num, by rw [HN.out.2]; congr 1; omega, HN.out.1⟩
      case measure => simp [intOf]; omega
    · have hge : (gs.length : Int) ≤ (m : Int) := by omega
      obtain rfl : m = gs.length := by omega
      have HB : Hid (Below w.heap.size w wr) := hb
      clear hb
      go_wp2
      go_ret
      exact ⟨rfl, HB.out⟩
theorem OwnL.rowG {n₀ : Nat} {W : World} {v : Value} {ps : List (Value × List Value)} {gs : List Seg} (h : OwnL n₀ W v ps gs) (hX : BdLg gs) (hl : gs.length ≤ 2400) : RowG W v gs := by
  refine ⟨?_, by omega, fun i g hi => by have := (hX g (List.mem_of_getElem? hi)).2.2; omega⟩
  rcases h.row.2 with ⟨rfl, h0⟩ | ⟨g, cap, cur, rfl, _⟩
  · exact ⟨none, 0, by rw [h0], fun hn => absurd (List.length_eq_zero_iff.1 h0) hn⟩
  · refine ⟨_, _, rfl, fun _ => ⟨g, 0, rfl, fun i y hi => ?_⟩⟩
    have hlt := (List.getElem?_eq_some_iff.1 hi).1
    obtain ⟨p, hp⟩ : ∃ p, ps[i]? = some p := ⟨_, List.getElem?_eq_getElem (by rw [h.len]; exact hlt)⟩
    obtain ⟨k1, k2⟩ := cellsL_get hi hp
    have a1 := h.row.cells (g := g) rfl (i * 2) _ k1
    have a2 := h.row.cells (g := g) rfl (i * 2 + 1) _ k2
    rw [addr0] at a1 a2
    have hy := hX y (List.mem_of_getElem? hi)
    rw [Nat.zero_add]
    exact ⟨a1, p.1, a2, (h.segs i p y hp hi).rowE hy.1 (by omega)⟩
end Go.Proofs.YtcdebinldmblkaaGreatDoor
namespace Go.Proofs.YtcdebinldmblkaaGreatDoor
open Go.ChangeShapes Go.WideShapes Go.ChangeAt Go.RowKit Go.Joins Go.Deep
theorem cellsString : Tryz.prog.cellsOf 9 = 1 := by kernel_rfl
theorem cellsStrings : Tryz.prog.cellsOf 22 = 1 := by kernel_rfl
theorem addr_plain (b o i : Nat) : (⟨b, o, none⟩ : Addr).add i = ⟨b, o + i, none⟩ := by unfold Addr.add; split <;> simp_all
section
variable {H : Type} {enc : TypeId × Value → H} {W : World} {base : Nat} {spare : Nat → Bool} {held : Bool}
theorem openS {fuel : Nat} {cs : List Value} {x : DataW H × List MemPlace} (h : DataW.trod enc Tryz.prog W base spare held fuel 22 cs = some x) : ∃ v ss, cs = [v] ∧ RowS W v ss := by
  rcases open_strings Tryz.underlying22 Tryz.underlying9 cellsString h with ⟨rfl, _⟩ | ⟨a, len, cap, ss, rfl, _, hl, hm, hlen, _, hcell, hsz⟩
  · exact ⟨_, [], rfl, ⟨⟨_, _, rfl, fun h => absurd rfl h⟩, by simp, fun i s hi => by simp at hi⟩⟩
  · have hlm : len ≤ ss.length := by rw [hlen]; split <;> omega
    have htl : (ss.take len).length = len := by rw [List.length_take]; omega
    unfold maxLen at hm hsz
    refine ⟨_, ss.take len, rfl, ⟨⟨some a, cap, by rw [htl], fun hn => ?_⟩, by omega, fun i s hi => hsz s (List.mem_of_mem_take (List.mem_of_getElem? hi))⟩⟩
    obtain ⟨b, off, spot⟩ := a
    have hpos : 0 < len := by
      rcases Nat.eq_zero_or_pos len with rfl | g
      · exact absurd (by simp) hn
      · exact g
    have h0 := hcell 0 (by omega)
    have hspot : spot = none := by simpa [Addr.add] using World.cell?_spot h0
    subst hspot
    refine ⟨b, off, rfl, fun i s hi => ?_⟩
    have hil := (List.getElem?_eq_some_iff.1 hi).1
    have h1 := hcell i (by omega)
    rw [addr_plain] at h1
    rw [h1]
    rw [List.getElem?_take_of_lt (by omega)] at hi
    rw [List.getD_eq_getElem?_getD, hi, Option.getD_some]
end
end Go.Proofs.YtcdebinldmblkaaGreatDoor
namespace Go.Proofs.YtcdebinldmblkaaGreatDoor
open Go.ChangeShapes Go.WideShapes Go.ChangeAt Go.RowKit Go.Joins Go.Deep
theorem cellsI64 : Tryz.prog.cellsOf 2 = 1 := by kernel_rfl
theorem cellsLine : Tryz.prog.cellsOf 54 = 5 := by kernel_rfl
theorem cellsLines : Tryz.prog.cellsOf 23 = 1 := by kernel_rfl
theorem cellsPaper : Tryz.prog.cellsOf 25 = 6 := by kernel_rfl
theorem list5 {α : Type} {l : List α} (h : l.length = 5) : ∃ a b c d e, l = [a, b, c, d, e] := by
  match l, h with
  | [a, b, c, d, e], _ => exact ⟨a, b, c, d, e, rfl⟩
theorem list6 {α : Type} {l : List α} (h : l.length = 6) : ∃ a b c d e f, l = [a, b, c, d, e, f] := by
  match l, h with
  | [a, b, c, d, e, f], _ => exact ⟨a, b, c, d, e, f, rfl⟩
theorem array6 {α : Type} {cs : Array α} (h : cs.size = 6) : ∃ a b c d e f, cs = #[a, b, c, d, e, f] := by
  obtain ⟨l⟩ := cs
  obtain ⟨a, b, c, d, e, f, rfl⟩ := list6 (show l.length = 6 from h)
  exact ⟨a, b, c, d, e, f, rfl⟩
theorem wf_bd {n : Int} (h : (Lit.int .i64 n).wf = true) : i64B n := by
  simp only [Lit.wf, Bool.and_eq_true, decide_eq_true_eq] at h
  have e1 : IntKind.i64.min = -9223372036854775808 := by decide
  have e2 : IntKind.i64.max = 9223372036854775807 := by decide
  rw [e1, e2] at h
  exact h
section
variable {H : Type} {enc : TypeId × Value → H} {W : World} {base : Nat} {spare : Nat → Bool} {held : Bool}
theorem openLn {fuel : Nat} {cs : List Value} {x : DataW H × List MemPlace} (h : DataW.trod enc Tryz.prog W base spare held fuel 54 cs = some x) :
    ∃ l : Ln, cs = [.int .i64 l.no, .string l.item, .int .i64 l.qty, .int .i64 l.money, .string l.note] ∧ l.item.size ≤ 9223372036854775807 ∧ l.note.size ≤ 9223372036854775807 ∧ LnI l := by
  obtain ⟨xs, n, rfl, hx, hl, hn, hf⟩ := DataW.trod_struct Tryz.underlying54 h
  rw [cellsLine] at hl
  obtain ⟨c0, c1, c2, c3, c4, rfl⟩ := list5 hl
  obtain ⟨x0, x1, x2, x3, x4, rfl⟩ := list5 (show xs.length = 5 from hn)
  obtain ⟨n0, k0, _, i0⟩ := DataW.trod_int Tryz.underlying2 (hf 0 _ rfl)
  obtain ⟨s1, k1, _, z1⟩ := DataW.trod_string Tryz.underlying9 (hf 1 _ rfl)
  obtain ⟨n2, k2, _, i2⟩ := DataW.trod_int Tryz.underlying2 (hf 2 _ rfl)
  obtain ⟨n3, k3, _, i3⟩ := DataW.trod_int Tryz.underlying2 (hf 3 _ rfl)
  obtain ⟨s4, k4, _, z4⟩ := DataW.trod_string Tryz.underlying9 (hf 4 _ rfl)
  simp [cellsString, cellsI64] at k0 k1 k2 k3 k4
  unfold maxLen at z1 z4
  exact ⟨⟨n0, s1, n2, n3, s4⟩, by rw [k0, k1, k2, k3, k4], z1, z4, wf_bd i0, wf_bd i2, wf_bd i3⟩
theorem openL {fuel : Nat} {cs : List Value} {x : DataW H × List MemPlace} (h : DataW.trod enc Tryz.prog W base spare held fuel 23 cs = some x) : ∃ v ls, cs = [v] ∧ RowL W v ls ∧ ∀ l ∈ ls, LnI l := by
  rcases open_slice Tryz.underlying23 h with ⟨rfl, _⟩ | ⟨a, len, cap, m, n, D, Pl, rfl, _, hl, hm, hmm, _, hx⟩
  · exact ⟨_, [], rfl, ⟨⟨_, _, rfl, fun h => absurd rfl h⟩, by simp, fun i l hi => by simp at hi⟩, fun l hl => by simp at hl⟩
  · have hlm : len ≤ m := by rw [hmm]; split <;> omega
    have inh : Inhabited Ln := ⟨⟨0, ⟨#[]⟩, 0, 0, ⟨#[]⟩⟩⟩
    obtain ⟨f, hf⟩ := choose_lt (α := Ln) (p := fun i l => (W.cell? ((a.add (i * 5)).add 0) = some (.int .i64 l.no) ∧ W.cell? ((a.add (i * 5)).add 1) = some (.string l.item) ∧ W.cell? ((a.add (i * 5)).add 2) = some (.int .i64 l.qty) ∧ W.cell? ((a.add (i * 5)).add 3) = some (.int .i64 l.money) ∧ W.cell? ((a.add (i * 5)).add 4) = some (.string l.note)) ∧ l.item.size ≤ 9223372036854775807 ∧ l.note.size ≤ 9223372036854775807 ∧ LnI l) (n := len) (fun i hi => by
      obtain ⟨cs', h1, h2⟩ := hx i (by omega)
      rw [cellsLine] at h1
      obtain ⟨l, rfl, z1, z2, zI⟩ := openLn h2
      have k := (World.cells?_some h1).2.2
      have k0 := k 0 (by omega)
      have k1 := k 1 (by omega)
      have k2 := k 2 (by omega)
      have k3 := k 3 (by omega)
      have k4 := k 4 (by omega)
      refine ⟨l, ⟨?_, ?_, ?_, ?_, ?_⟩, z1, z2, zI⟩
      · simpa using k0
      · simpa using k1
      · simpa using k2
      · simpa using k3
      · simpa using k4)
    have htl : ((List.range len).map f).length = len := by simp
    unfold maxLen at hm
    have hget : ∀ (i : Nat) (g : Ln), ((List.range len).map f)[i]? = some g → i < len ∧ g = f i := fun i g hi => by
      have hil := (List.getElem?_eq_some_iff.1 hi).1
      rw [htl] at hil
      exact ⟨hil, by simpa [hil] using hi.symm⟩
    refine ⟨_, (List.range len).map f, rfl, ⟨⟨some a, cap, by rw [htl], fun hn => ?_⟩, by omega, fun i g hi => ?_⟩, fun g hg => ?_⟩
    · obtain ⟨b, off, spot⟩ := a
      have hpos : 0 < len := by
        rcases Nat.eq_zero_or_pos len with rfl | g
        · exact absurd (by simp) hn
        · exact g
      have h0 := (hf 0 hpos).1.1
      have hspot : spot = none := by simpa [Addr.add] using World.cell?_spot h0
      subst hspot
      refine ⟨b, off, rfl, fun i g hi => ?_⟩
      obtain ⟨hil, rfl⟩ := hget i g hi
      obtain ⟨⟨k0, k1, k2, k3, k4⟩, _, _, _⟩ := hf i hil
      rw [addr_plain, addr_plain] at k0 k1 k2 k3 k4
      exact ⟨k0, k1, k2, k3, k4⟩
    · obtain ⟨hil, rfl⟩ := hget i g hi
      exact ⟨(hf i hil).2.1, (hf i hil).2.2.1⟩
    · obtain ⟨i, hi⟩ := List.getElem?_of_mem hg
      obtain ⟨hil, rfl⟩ := hget i g hi
      exact (hf i hil).2.2.2
set_option maxRecDepth 100000 in
theorem openP {r : Reach} {b0 : Nat} {v : Value} {d : DataW H} {p : List MemPlace} (hv : Value.okWide Tryz.prog W r b0 25 v) (h : DataW.Trod enc Tryz.prog W base spare held 25 v d p) :
    ∃ (q : Pap) (vn vl : Value), v = .agg #[.int .i64 q.kind, .string q.ref, .string q.other, .int .i64 q.day, vn, vl] ∧ PapR W vn vl q ∧ PapI q := by
  obtain ⟨cs, rfl, hsz⟩ := okWide_struct Tryz.underlying25 hv
  obtain ⟨c0, c1, c2, c3, c4, c5, rfl⟩ := array6 (hsz.trans cellsPaper)
  obtain ⟨fuel, hf0⟩ := h
  obtain ⟨xs, n, rfl, hx, hl, hn, hf⟩ := DataW.trod_struct Tryz.underlying25 hf0
  obtain ⟨x0, x1, x2, x3, x4, x5, rfl⟩ := list6 (show xs.length = 6 from hn)
  obtain ⟨n0, k0, _, _⟩ := DataW.trod_int Tryz.underlying2 (hf 0 _ rfl)
  obtain ⟨s1, k1, _, z1⟩ := DataW.trod_string Tryz.underlying9 (hf 1 _ rfl)
  obtain ⟨s2, k2, _, z2⟩ := DataW.trod_string Tryz.underlying9 (hf 2 _ rfl)
  obtain ⟨n3, k3, _, i3⟩ := DataW.trod_int Tryz.underlying2 (hf 3 _ rfl)
  obtain ⟨vn, ns, k4, r4⟩ := openS (hf 4 _ rfl)
  obtain ⟨vl, ls, k5, r5, rI⟩ := openL (hf 5 _ rfl)
  simp [Value.cells, cellsString, cellsI64, cellsStrings, cellsLines] at k0 k1 k2 k3 k4 k5
  unfold maxLen at z1 z2
  exact ⟨⟨n0, s1, s2, n3, ns, ls⟩, vn, vl, by rw [k0, k1, k2, k3, k4, k5], ⟨r4, r5, z1, z2⟩, wf_bd i3, rI⟩
end
end Go.Proofs.YtcdebinldmblkaaGreatDoor
namespace Go.Proofs.YtcdebinldmblkaaGreatDoor
open Go.ChangeShapes Go.WideShapes Go.ChangeAt Go.RowKit
set_option maxHeartbeats 1000000 in
theorem szS_any (v : Value) (ss : List ByteArray) (left : Int) (w : World) (h : RowS w v ss) (hl : 0 ≤ left ∧ left ≤ 1048576) :
    Calls Tryz.prog 13 #[v, .int .i64 left] w fun e w' => ∃ r : Int, e = .returned (.int .i64 r) ∧ (r = -1 ∨ (0 ≤ r ∧ r ≤ left ∧ BdS left.toNat ss)) ∧ Below w.heap.size w w' := by
  have hlen := h.len
  obtain ⟨a, cap, rfl⟩ := h.val
  have H : Hid (RowS w (.slice a ss.length cap) ss) := h
  clear h
  by_cases hn : left < (ss.length : Int)
  · have hn' : left - (ss.length : Int) < 0 := by omega
    go_enter Tryz.func13, Tryz.ntmps13
    go_wp2
    go_ret
    exact ⟨_, rfl, .inl rfl, Below.refl _ _⟩
  · have hn' : ¬ left - (ss.length : Int) < 0 := by omega
    go_enter Tryz.func13, Tryz.ntmps13
    go_wp2
    go_loopw [1, 5] (fun l i wr => ∃ (k : Nat) (r : Int), l = .int .i64 r ∧ i = .int .i64 (k : Int) ∧ k ≤ ss.length ∧ 0 ≤ r ∧ r ≤ left ∧ (∀ (j : Nat) (s : ByteArray), j < k → ss[j]? = some s → s.size ≤ left.toNat) ∧ wr = w) (fun _ i _ => ss.length - (intOf i).toNat)
    case atStart => exact ⟨0, _, rfl, rfl, by omega, by omega, by omega, fun j s h => by omega, rfl⟩
    case round =>
      obtain ⟨k, r, rfl, rfl, hk, hr0, hr1, hA, rfl⟩ := hrel
      have HA : Hid (∀ (j : Nat) (s : ByteArray), j < k → ss[j]? = some s → s.size ≤ left.toNat) := hA
      clear hA
      by_cases hlt : k < ss.length
      · have hlt' : (k : Int) < (ss.length : Int) := by omega
        obtain ⟨b, o, cap', s, e, hs, hc, hsz⟩ := H.out.at hlt
        simp only [Value.slice.injEq, true_and] at e
        obtain ⟨rfl, rfl⟩ := e
        have HS : Hid (ss[k]? = some s) := hs
        clear hs
        by_cases hneg : r - (s.size : Int) < 0
        · go_wp2
          go_ret
          exact ⟨_, rfl, .inl rfl, Below.refl _ _⟩
        · go_wp2
          go_roundw
          case rel =>
            refine ⟨k + 1, _, rfl, by go_num, by omega, by omega, by omega, fun j t hj ht => ?_, trivial⟩
            rcases Nat.lt_or_ge j k with g | g
            · exact HA.out j t g ht
            · obtain rfl : j = k := by omega
              rw [HS.out] at ht
              cases ht
              omega
          case measure => simp [intOf]; omega
      · obtain rfl : k = ss.length := by omega
        go_wp2
        go_ret
        refine ⟨r, rfl, .inr ⟨hr0, hr1, by omega, fun j s hj => HA.out j s ?_ hj⟩, Below.refl _ _⟩
        exact (List.getElem?_eq_some_iff.1 hj).1
theorem BdS.mono {m n : Nat} {ss : List ByteArray} (h : BdS m ss) (hmn : m ≤ n) : BdS n ss := ⟨Nat.le_trans h.1 hmn, fun i s hi => Nat.le_trans (h.2 i s hi) hmn⟩
end Go.Proofs.YtcdebinldmblkaaGreatDoor
