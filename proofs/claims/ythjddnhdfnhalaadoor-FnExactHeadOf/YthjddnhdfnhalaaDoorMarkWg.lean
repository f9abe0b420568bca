/- Marks written into any list of segments: only scalars of a zone of blocks are changed; and the measures, which tell how many marks there are. -/
import Derived.Test.YthjddnhdfnhalaaDoorMarkT
import Derived.Test.YthjddnhdfnhalaaDoorMwA
import Derived.Test.YthjddnhdfnhalaaDoorDeepG
namespace Go.Proofs.YthjddnhdfnhalaaDoor
open Go.ChangeShapes Go.WideShapes Go.ChangeAt Go.RowKit
def ShE (lo hi : Nat) (W : World) (v : Value) (es : List (List ByteArray)) : Prop := ∃ A C, v = .slice A es.length C ∧ (0 < es.length → ∃ b, A = some ⟨b, 0, none⟩ ∧ ∀ (i : Nat) (e : List ByteArray), es[i]? = some e → ∃ A' C', W.cell? ⟨b, i, none⟩ = some (.slice A' e.length C') ∧ ShS lo hi W (.slice A' e.length C') e.length)
def ShG (lo hi : Nat) (W : World) (v : Value) (gs : List Seg) : Prop := ∃ A C, v = .slice A gs.length C ∧ (0 < gs.length → ∃ b, A = some ⟨b, 0, none⟩ ∧ lo ≤ b ∧ b < hi ∧ (∀ o, W.frozen? ⟨b, o, none⟩ = false) ∧ ∀ (i : Nat) (g : Seg), gs[i]? = some g → (∃ t, W.cell? ⟨b, i * 2, none⟩ = some (.string t)) ∧ ∃ A' C', W.cell? ⟨b, i * 2 + 1, none⟩ = some (.slice A' g.2.length C') ∧ ShE lo hi W (.slice A' g.2.length C') g.2)
theorem ShE.tame {lo hi : Nat} {W W' : World} {v : Value} {es : List (List ByteArray)} (h : ShE lo hi W v es) (k : Tame lo hi W W') : ShE lo hi W' v es := by
  obtain ⟨A, C, e, h⟩ := h
  refine ⟨A, C, e, fun h0 => ?_⟩
  obtain ⟨b, e1, h4⟩ := h h0
  refine ⟨b, e1, fun i x hx => ?_⟩
  obtain ⟨A', C', q1, q2⟩ := h4 i x hx
  exact ⟨A', C', k.sl _ _ _ _ _ q1, q2.tame k⟩
theorem ShG.tame {lo hi : Nat} {W W' : World} {v : Value} {gs : List Seg} (h : ShG lo hi W v gs) (k : Tame lo hi W W') : ShG lo hi W' v gs := by
  obtain ⟨A, C, e, h⟩ := h
  refine ⟨A, C, e, fun h0 => ?_⟩
  obtain ⟨b, e1, h1, h2, h3, h4⟩ := h h0
  obtain ⟨⟨t, ht⟩, _⟩ := h4 0 _ (List.getElem?_eq_getElem h0)
  refine ⟨b, e1, h1, h2, fun o => k.fz b o (cell_lt ht) (h3 o), fun i x hx => ?_⟩
  obtain ⟨⟨t, ht⟩, A', C', q1, q2⟩ := h4 i x hx
  exact ⟨k.st _ _ _ ht, A', C', k.sl _ _ _ _ _ q1, q2.tame k⟩
theorem OwnE.sh {B : Nat} {W : World} {v : Value} {es : List (List ByteArray)} (h : OwnE B W v es) {lo hi : Nat} (hlo : lo ≤ B) (hhi : W.heap.size ≤ hi) : ShE lo hi W v es := by
  obtain ⟨b, f, h1, h2, h3, h4⟩ := h
  refine ⟨_, _, h2, fun _ => ⟨b, rfl, fun i e he => ?_⟩⟩
  have hs := (h4 i e he).sh (lo := lo) (by omega) hhi
  obtain ⟨A', C', q1, q2⟩ := hs
  have hc := h3.cell (i := i) (List.getElem?_eq_some_iff.1 he).1
  rw [q1] at hc
  exact ⟨A', C', hc, A', C', rfl, q2⟩
theorem OwnG.sh {B : Nat} {W : World} {v : Value} {gs : List Seg} (h : OwnG B W v gs) {lo hi : Nat} (hlo : lo ≤ B) (hhi : W.heap.size ≤ hi) : ShG lo hi W v gs := by
  obtain ⟨b, f, h1, h2, h3, h4⟩ := h
  have := h3.lt
  refine ⟨_, _, h2, fun _ => ⟨b, rfl, by omega, by omega, h3.frozen, fun i g hg => ?_⟩⟩
  obtain ⟨e1, e2⟩ := h4 i g hg
  obtain ⟨A', C', q1, q2⟩ := e2.sh (lo := lo) (by omega) hhi
  have hlt := (List.getElem?_eq_some_iff.1 hg).1
  have c0 := h3.cell (i := i * 2) (by omega)
  have c1 := h3.cell (i := i * 2 + 1) (by omega)
  rw [e1] at c0
  rw [q1] at c1
  exact ⟨⟨_, c0⟩, A', C', c1, A', C', rfl, q2⟩
/-- What stands ahead of a place. -/
def ofs {α : Type} (f : α → Nat) (l : List α) (i : Nat) : Nat := ((l.take i).map f).sum
theorem ofs_zero {α : Type} (f : α → Nat) (l : List α) : ofs f l 0 = 0 := by simp [ofs]
theorem ofs_succ {α : Type} {f : α → Nat} {l : List α} {i : Nat} {x : α} (h : l[i]? = some x) : ofs f l (i + 1) = ofs f l i + f x := by
  unfold ofs
  rw [List.take_add_one, h]
  simp
theorem ofs_mono {α : Type} {f : α → Nat} {l : List α} : ∀ {i : Nat}, i ≤ l.length → ofs f l i ≤ ofs f l l.length := by
  intro i hi
  induction hd : l.length - i generalizing i with
  | zero => rw [show i = l.length by omega]; exact Nat.le_refl _
  | succ d ih =>
    have hlt : i < l.length := by omega
    have h1 := ofs_succ (f := f) (List.getElem?_eq_getElem hlt)
    have h2 := ih (i := i + 1) (by omega) (by omega)
    omega
def cE (es : List (List ByteArray)) : Nat := ofs List.length es es.length
def cG (gs : List Seg) : Nat := ofs (fun g => 1 + cE g.2) gs gs.length
set_option maxHeartbeats 1000000 in
theorem markE_w (v : Value) (es : List (List ByteArray)) (lo hi k0 : Nat) (w : World) (h : ShE lo hi w v es) (hl : es.length ≤ 1048576) (hk0 : 0 < k0) (hk1 : k0 + cE es < 1099511627776) :
    Calls Tryd.prog 29 #[v, .int .i64 k0] w fun e w' => e = .returned (.int .i64 ((k0 + cE es : Nat) : Int)) ∧ Tame lo hi w w' := by
  obtain ⟨A, C, rfl, h⟩ := h
  have HT : Hid (ShE lo hi w (.slice A es.length C) es) := ⟨A, C, rfl, h⟩
  clear h
  unfold cE at hk1 ⊢
  go_enter Tryd.func29, Tryd.ntmps29
  go_wp2
  go_loopw [1, 5] (fun kv i wr => ∃ k : Nat, k ≤ es.length ∧ i = .int .i64 k ∧ kv = .int .i64 ((k0 + ofs List.length es k : Nat) : Int) ∧ Tame lo hi w wr) (fun _ i _ => es.length - (intOf i).toNat)
  case atStart => exact ⟨0, Nat.zero_le _, rfl, by simp [ofs_zero], Tame.refl _ _ _⟩
  case round =>
    obtain ⟨k, hk, rfl, rfl, hT⟩ := hrel
    have hof := ofs_mono (f := List.length) (l := es) hk
    by_cases hlt : k < es.length
    · have hlt' : (k : Int) < (es.length : Int) := by omega
      obtain ⟨e, he⟩ : ∃ e, es[k]? = some e := ⟨_, List.getElem?_eq_getElem hlt⟩
      have hof1 := ofs_mono (f := List.length) (l := es) (i := k + 1) hlt
      rw [ofs_succ he] at hof1
      obtain ⟨A', C', ee, hh⟩ := HT.out.tame hT
      simp only [Value.slice.injEq, true_and] at ee
      obtain ⟨rfl, rfl⟩ := ee
      obtain ⟨b, rfl, hc⟩ := hh (by omega)
      obtain ⟨A1, C1, q1, q2⟩ := hc k e he
      have HK : Hid (Tame lo hi w wr ∧ ShS lo hi wr (.slice A1 e.length C1) e.length ∧ es[k]? = some e) := ⟨hT, q2, he⟩
      clear hT hh hc q2 he
      go_wp2_with fail
      refine (markS_w _ e.length lo hi (k0 + ofs List.length es k) _ HK.out.2.1 (by omega) (by omega)).mono ?_
      rintro e1 w2 ⟨rfl, hT2⟩
      have HM : Hid (Tame lo hi w w2 ∧ ofs List.length es (k + 1) = ofs List.length es k + e.length) := ⟨HK.out.1.trans hT2, ofs_succ HK.out.2.2⟩
      clear hT2 HK
      go_wp2
      go_roundw
      case rel => exact ⟨k + 1, by omega, by go_num, by rw [HM.out.2]; congr 1; omega, HM.out.1⟩
      case measure => simp [intOf]; omega
    · have hge : (es.length : Int) ≤ (k : Int) := by omega
      obtain rfl : k = es.length := by omega
      have HK : Hid (Tame lo hi w wr) := hT
      clear hT
      go_wp2
      go_ret
      exact ⟨rfl, HK.out⟩
set_option maxHeartbeats 1000000 in
theorem markG_w (v : Value) (gs : List Seg) (lo hi k0 : Nat) (w : World) (h : ShG lo hi w v gs) (hB : BdG 1048576 gs) (hk0 : 0 < k0) (hk1 : k0 + cG gs < 1099511627776) :
    Calls Tryd.prog 10 #[v, .int .i64 k0] w fun e w' => e = .returned (.int .i64 ((k0 + cG gs : Nat) : Int)) ∧ Tame lo hi w w' := by
  obtain ⟨A, C, rfl, h⟩ := h
  have hl := hB.1
  have HT : Hid (ShG lo hi w (.slice A gs.length C) gs ∧ BdG 1048576 gs) := ⟨⟨A, C, rfl, h⟩, hB⟩
  clear h hB
  unfold cG at hk1 ⊢
  obtain ⟨F, hF⟩ : ∃ F : Seg → Nat, (fun g : Seg => 1 + cE g.2) = F := ⟨_, rfl⟩
  have hFx : ∀ g, F g = 1 + cE g.2 := fun g => by rw [← hF]
  rw [hF] at hk1 ⊢
  clear hF
  go_enter Tryd.func10, Tryd.ntmps10
  go_wp2
  go_loopw [1, 5] (fun kv i wr => ∃ k : Nat, k ≤ gs.length ∧ i = .int .i64 k ∧ kv = .int .i64 ((k0 + ofs F gs k : Nat) : Int) ∧ Tame lo hi w wr) (fun _ i _ => gs.length - (intOf i).toNat)
  case atStart => exact ⟨0, Nat.zero_le _, rfl, by simp [ofs_zero], Tame.refl _ _ _⟩
  case round =>
    obtain ⟨k, hk, rfl, rfl, hT⟩ := hrel
    have hof := ofs_mono (f := F) (l := gs) hk
    by_cases hlt : k < gs.length
    · have hlt' : (k : Int) < (gs.length : Int) := by omega
      obtain ⟨g, he⟩ : ∃ e, gs[k]? = some e := ⟨_, List.getElem?_eq_getElem hlt⟩
      have hof1 := ofs_mono (f := F) (l := gs) (i := k + 1) hlt
      rw [ofs_succ he, hFx] at hof1
      obtain ⟨A', C', ee, hh⟩ := HT.out.1.tame hT
      simp only [Value.slice.injEq, true_and] at ee
      obtain ⟨rfl, rfl⟩ := ee
      obtain ⟨b, rfl, hlo, hhi, _⟩ := hh (by omega)
      have HK : Hid (Tame lo hi w wr ∧ gs[k]? = some g) := ⟨hT, he⟩
      clear hT hh he
      go_wp2_with fail
      refine (markText_w (k0 + ofs F gs k) _ (by omega) (by omega)).mono ?_
      rintro e w3 ⟨t3, rfl, hb3⟩
      have hT3 := HK.out.1.trans (Tame.of_below (lo := lo) (hi := hi) hb3)
      obtain ⟨A', C', ee, hh⟩ := HT.out.1.tame hT3
      simp only [Value.slice.injEq, true_and] at ee
      obtain ⟨rfl, rfl⟩ := ee
      obtain ⟨b', eb, _, _, zu, hc⟩ := hh (by omega)
      simp only [Option.some.injEq, Addr.mk.injEq, and_true] at eb
      subst eb
      obtain ⟨⟨t, ku⟩, A1, C1, q1, q2⟩ := hc k g HK.out.2
      have hTs : Tame lo hi w3 (w3.setCell ⟨b, k * 2, none⟩ (.string t3)) := Tame.setS hlo hhi ku t3
      have q3 := hTs.sl _ _ _ _ _ q1
      have HM : Hid (Tame lo hi w (w3.setCell ⟨b, k * 2, none⟩ (.string t3)) ∧ ShE lo hi (w3.setCell ⟨b, k * 2, none⟩ (.string t3)) (.slice A1 g.2.length C1) g.2) := ⟨hT3.trans hTs, q2.tame hTs⟩
      clear hh hc hT3 hb3 q2 hTs
      go_wp2_with fail
      refine (markE_w _ g.2 lo hi (k0 + ofs F gs k + 1) _ HM.out.2 (HT.out.2.2 k g HK.out.2).2.1 (by omega) (by omega)).mono ?_
      rintro e w4 ⟨rfl, hT4⟩
      have HN : Hid (Tame lo hi w w4 ∧ ofs F gs (k + 1) = ofs F gs k + (1 + cE g.2)) := ⟨HM.out.1.trans hT4, by rw [ofs_succ HK.out.2, hFx]⟩
      clear hT4 HM HK
      go_wp2
      go_roundw
      case rel => exact ⟨k + 1, by omega, by go_num, by rw [HN.out.2]; congr 1; omega, HN.out.1⟩
      case measure => simp [intOf]; omega
    · have hge : (gs.length : Int) ≤ (k : Int) := by omega
      obtain rfl : k = gs.length := by omega
      have HK : Hid (Tame lo hi w wr) := hT
      clear hT
      go_wp2
      go_ret
      exact ⟨rfl, HK.out⟩
set_option maxHeartbeats 1000000 in
theorem szS_c (v : Value) (ss : List ByteArray) (left : Int) (w : World) (h : RowS w v ss) (hl : 0 ≤ left ∧ left ≤ 1048576) :
    Calls Tryd.prog 56 #[v, .int .i64 left] w fun e w' => ∃ r : Int, e = .returned (.int .i64 r) ∧ (r = -1 ∨ (0 ≤ r ∧ r + (ss.length : Int) ≤ left ∧ BdS left.toNat ss)) ∧ Below w.heap.size w w' := by
  have hlen := h.len
  obtain ⟨a, cap, rfl⟩ := h.val
  have H : Hid (RowS w (.slice a ss.length cap) ss) := h
  clear h
  by_cases hn : left < (ss.length : Int)
  · have hn' : left - (ss.length : Int) < 0 := by omega
    go_enter Tryd.func56, Tryd.ntmps56
    go_wp2
    go_ret
    exact ⟨_, rfl, .inl rfl, Below.refl _ _⟩
  · have hn' : ¬ left - (ss.length : Int) < 0 := by omega
    go_enter Tryd.func56, Tryd.ntmps56
    go_wp2
    go_loopw [1, 5] (fun l i wr => ∃ (k : Nat) (r : Int), l = .int .i64 r ∧ i = .int .i64 (k : Int) ∧ k ≤ ss.length ∧ 0 ≤ r ∧ r + (ss.length : Int) ≤ left ∧ (∀ (j : Nat) (s : ByteArray), j < k → ss[j]? = some s → s.size ≤ left.toNat) ∧ wr = w) (fun _ i _ => ss.length - (intOf i).toNat)
    case atStart => exact ⟨0, _, rfl, rfl, by omega, by omega, by omega, fun j s h => by omega, rfl⟩
    case round =>
      obtain ⟨k, r, rfl, rfl, hk, hr0, hr1, hA, rfl⟩ := hrel
      have HA : Hid (∀ (j : Nat) (s : ByteArray), j < k → ss[j]? = some s → s.size ≤ left.toNat) := hA
      clear hA
      by_cases hlt : k < ss.length
      · have hlt' : (k : Int) < (ss.length : Int) := by omega
        obtain ⟨b, o, cap', s, e, hs, hc, hsz⟩ := H.out.at hlt
        simp only [Value.slice.injEq, true_and] at e
        obtain ⟨rfl, rfl⟩ := e
        have HS : Hid (ss[k]? = some s) := hs
        clear hs
        by_cases hneg : r - (s.size : Int) < 0
        · go_wp2
          go_ret
          exact ⟨_, rfl, .inl rfl, Below.refl _ _⟩
        · go_wp2
          go_roundw
          case rel =>
            refine ⟨k + 1, _, rfl, by go_num, by omega, by omega, by omega, fun j t hj ht => ?_, trivial⟩
            rcases Nat.lt_or_ge j k with g | g
            · exact HA.out j t g ht
            · obtain rfl : j = k := by omega
              rw [HS.out] at ht
              cases ht
              omega
          case measure => simp [intOf]; omega
      · obtain rfl : k = ss.length := by omega
        go_wp2
        go_ret
        refine ⟨r, rfl, .inr ⟨hr0, hr1, by omega, fun j s hj => HA.out j s ?_ hj⟩, Below.refl _ _⟩
        exact (List.getElem?_eq_some_iff.1 hj).1
set_option maxHeartbeats 400000 in
theorem szEl_c (v : Value) (ss : List ByteArray) (left : Int) (w : World) (h : RowS w v ss) (hl : 0 ≤ left ∧ left ≤ 1048576) :
    Calls Tryd.prog 46 #[.agg #[v], .int .i64 left] w fun e w' => ∃ r : Int, e = .returned (.int .i64 r) ∧ (r = -1 ∨ (0 ≤ r ∧ r + (ss.length : Int) ≤ left ∧ BdS left.toNat ss)) ∧ Below w.heap.size w w' := by
  obtain ⟨a, cap, rfl⟩ := h.val
  have H : Hid (RowS w (.slice a ss.length cap) ss) := h
  clear h
  go_enter Tryd.func46, Tryd.ntmps46
  go_wp2_with fail
  refine (szS_c _ ss left _ (H.out.below ((Below.refl _ _).alloc (Nat.le_refl _) _)) hl).mono ?_
  rintro e w1 ⟨r, rfl, hr, hb⟩
  have HB : Hid (Below w.heap.size w w1) := ((Below.refl _ _).alloc (Nat.le_refl _) _).trans (hb.mono (by simp))
  clear hb
  rcases hr with rfl | ⟨h0, h1, h2⟩
  · go_wp2
    go_ret
    exact ⟨_, rfl, .inl rfl, HB.out⟩
  · have h0' : ¬ r < 0 := by omega
    have H2 : Hid (BdS left.toNat ss) := h2
    clear h2
    go_wp2
    go_ret
    exact ⟨_, rfl, .inr ⟨h0, h1, H2.out⟩, HB.out⟩
set_option maxHeartbeats 1000000 in
theorem szE_c (v : Value) (es : List (List ByteArray)) (left : Int) (w : World) (h : RowE w v es) (hl : 0 ≤ left ∧ left ≤ 1048576) :
    Calls Tryd.prog 32 #[v, .int .i64 left] w fun e w' => ∃ r : Int, e = .returned (.int .i64 r) ∧ (r = -1 ∨ (0 ≤ r ∧ r + (cE es : Int) ≤ left ∧ BdE left.toNat es)) ∧ Below w.heap.size w w' := by
  obtain ⟨F, hF⟩ : ∃ F : List ByteArray → Nat, (List.length) = F := ⟨_, rfl⟩
  have HFx : Hid (∀ g, F g = (List.length) g) := fun g => by rw [← hF]
  have HF : Hid (cE es = ofs F es es.length) := by show ofs _ _ _ = _; rw [← hF]
  clear hF
  have hlen := h.len
  obtain ⟨a, cap, rfl⟩ := h.val
  have H : Hid (RowE w (.slice a es.length cap) es) := h
  clear h
  by_cases hn : left < (es.length : Int)
  · have hn' : left - (es.length : Int) < 0 := by omega
    go_enter Tryd.func32, Tryd.ntmps32
    go_wp2
    go_ret
    exact ⟨_, rfl, .inl rfl, Below.refl _ _⟩
  · have hn' : ¬ left - (es.length : Int) < 0 := by omega
    go_enter Tryd.func32, Tryd.ntmps32
    go_wp2
    go_loopw [1, 5] (fun l i wr => ∃ (k : Nat) (r : Int), l = .int .i64 r ∧ i = .int .i64 (k : Int) ∧ k ≤ es.length ∧ 0 ≤ r ∧ r ≤ left ∧ r + (ofs F es k : Int) + (es.length : Int) ≤ left + 0 * (k : Int) ∧ (∀ (j : Nat) (e : List ByteArray), j < k → es[j]? = some e → BdS left.toNat e) ∧ Below w.heap.size w wr) (fun _ i _ => es.length - (intOf i).toNat)
    case atStart => exact ⟨0, _, rfl, rfl, by omega, by omega, by omega, by rw [ofs_zero]; omega, fun j s h => by omega, Below.refl _ _⟩
    case round =>
      obtain ⟨k, r, rfl, rfl, hk, hr0, hr1, hr3, hA, hb⟩ := hrel
      have HA : Hid ((∀ (j : Nat) (e : List ByteArray), j < k → es[j]? = some e → BdS left.toNat e) ∧ Below w.heap.size w wr) := ⟨hA, hb⟩
      clear hA hb
      by_cases hlt : k < es.length
      · have hlt' : (k : Int) < (es.length : Int) := by omega
        obtain ⟨b, o, cap', s, u, e, hs, hc, hS⟩ := (H.out.below HA.out.2).at hlt
        simp only [Value.slice.injEq, true_and] at e
        obtain ⟨rfl, rfl⟩ := e
        have HS : Hid (es[k]? = some s ∧ RowS wr u s) := ⟨hs, hS⟩
        clear hs hS
        go_wp2_with fail
        refine (szEl_c u s r _ HS.out.2 ⟨hr0, by omega⟩).mono ?_
        rintro e w2 ⟨r2, rfl, hr2, hb2⟩
        have HB : Hid (Below w.heap.size w w2) := HA.out.2.trans (hb2.mono HA.out.2.size)
        clear hb2
        rcases hr2 with rfl | ⟨g0, g1, g2⟩
        · go_wp2
          go_ret
          exact ⟨_, rfl, .inl rfl, HB.out⟩
        · have H2 : Hid (BdS r.toNat s) := g2
          have g0' : ¬ r2 < 0 := by omega
          clear g2
          go_wp2
          go_roundw
          case rel =>
            refine ⟨k + 1, _, rfl, by go_num, by omega, by omega, by omega, by rw [ofs_succ HS.out.1, HFx.out]; omega, fun j t hj ht => ?_, HB.out⟩
            rcases Nat.lt_or_ge j k with g | g
            · exact HA.out.1 j t g ht
            · obtain rfl : j = k := by omega
              rw [HS.out.1] at ht
              cases ht
              exact H2.out.mono (by omega)
          case measure => simp [intOf]; omega
      · obtain rfl : k = es.length := by omega
        go_wp2
        go_ret
        refine ⟨r, rfl, .inr ⟨hr0, by rw [HF.out]; omega, by omega, fun j s hj => HA.out.1 j s ?_ hj⟩, HA.out.2⟩
        exact (List.getElem?_eq_some_iff.1 hj).1
set_option maxHeartbeats 1000000 in
theorem szG_c (tag : ByteArray) (v : Value) (es : List (List ByteArray)) (left : Int) (w : World) (ht : tag.size ≤ 9223372036854775807) (h : RowE w v es) (hl : 0 ≤ left ∧ left ≤ 1048576) :
    Calls Tryd.prog 13 #[.agg #[.string tag, v], .int .i64 left] w fun e w' => ∃ r : Int, e = .returned (.int .i64 r) ∧ (r = -1 ∨ (0 ≤ r ∧ r + (cE es : Int) ≤ left ∧ tag.size ≤ left.toNat ∧ BdE left.toNat es)) ∧ Below w.heap.size w w' := by
  obtain ⟨a, cap, rfl⟩ := h.val
  have H : Hid (RowE w (.slice a es.length cap) es) := h
  clear h
  by_cases hn : left - (tag.size : Int) < 0
  · go_enter Tryd.func13, Tryd.ntmps13
    go_wp2
    go_ret
    exact ⟨_, rfl, .inl rfl, (Below.refl _ _).alloc (Nat.le_refl _) _⟩
  · go_enter Tryd.func13, Tryd.ntmps13
    go_wp2_with fail
    refine (szE_c _ es (left - (tag.size : Int)) _ (H.out.below ((Below.refl _ _).alloc (Nat.le_refl _) _)) ⟨by omega, by omega⟩).mono ?_
    rintro e w1 ⟨r, rfl, hr, hb⟩
    have HB : Hid (Below w.heap.size w w1) := ((Below.refl _ _).alloc (Nat.le_refl _) _).trans (hb.mono (by simp))
    clear hb
    rcases hr with rfl | ⟨h0, h1, h2⟩
    · go_wp2
      go_ret
      exact ⟨_, rfl, .inl rfl, HB.out⟩
    · have h0' : ¬ r < 0 := by omega
      have H2 : Hid (BdE (left - (tag.size : Int)).toNat es) := h2
      clear h2
      go_wp2
      go_ret
      exact ⟨_, rfl, .inr ⟨h0, by omega, by omega, Nat.le_trans H2.out.1 (by omega), fun i e hi => (H2.out.2 i e hi).mono (by omega)⟩, HB.out⟩
set_option maxHeartbeats 1000000 in
theorem szGs_c (v : Value) (gs : List Seg) (left : Int) (w : World) (h : RowG w v gs) (hl : 0 ≤ left ∧ left ≤ 1048576) :
    Calls Tryd.prog 4 #[v, .int .i64 left] w fun e w' => ∃ r : Int, e = .returned (.int .i64 r) ∧ (r = -1 ∨ (0 ≤ r ∧ r + (cG gs : Int) ≤ left ∧ BdG left.toNat gs)) ∧ Below w.heap.size w w' := by
  obtain ⟨F, hF⟩ : ∃ F : Seg → Nat, (fun g => 1 + cE g.2) = F := ⟨_, rfl⟩
  have HFx : Hid (∀ g, F g = (fun g => 1 + cE g.2) g) := fun g => by rw [← hF]
  have HF : Hid (cG gs = ofs F gs gs.length) := by show ofs _ _ _ = _; rw [← hF]
  clear hF
  have hlen := h.len
  obtain ⟨a, cap, rfl⟩ := h.val
  have H : Hid (RowG w (.slice a gs.length cap) gs) := h
  clear h
  by_cases hn : left < (gs.length : Int)
  · have hn' : left - (gs.length : Int) < 0 := by omega
    go_enter Tryd.func4, Tryd.ntmps4
    go_wp2
    go_ret
    exact ⟨_, rfl, .inl rfl, Below.refl _ _⟩
  · have hn' : ¬ left - (gs.length : Int) < 0 := by omega
    go_enter Tryd.func4, Tryd.ntmps4
    go_wp2
    go_loopw [1, 5] (fun l i wr => ∃ (k : Nat) (r : Int), l = .int .i64 r ∧ i = .int .i64 (k : Int) ∧ k ≤ gs.length ∧ 0 ≤ r ∧ r ≤ left ∧ r + (ofs F gs k : Int) + (gs.length : Int) ≤ left + 1 * (k : Int) ∧ (∀ (j : Nat) (g : Seg), j < k → gs[j]? = some g → g.1.size ≤ left.toNat ∧ BdE left.toNat g.2) ∧ Below w.heap.size w wr) (fun _ i _ => gs.length - (intOf i).toNat)
    case atStart => exact ⟨0, _, rfl, rfl, by omega, by omega, by omega, by rw [ofs_zero]; omega, fun j s h => by omega, Below.refl _ _⟩
    case round =>
      obtain ⟨k, r, rfl, rfl, hk, hr0, hr1, hr3, hA, hb⟩ := hrel
      have HA : Hid ((∀ (j : Nat) (g : Seg), j < k → gs[j]? = some g → g.1.size ≤ left.toNat ∧ BdE left.toNat g.2) ∧ Below w.heap.size w wr) := ⟨hA, hb⟩
      clear hA hb
      by_cases hlt : k < gs.length
      · have hlt' : (k : Int) < (gs.length : Int) := by omega
        obtain ⟨b, o, cap', g, u, e, hs, hc, hc2, hS, hsz⟩ := (H.out.below HA.out.2).at hlt
        simp only [Value.slice.injEq, true_and] at e
        obtain ⟨rfl, rfl⟩ := e
        obtain ⟨a2, cap2, rfl⟩ := hS.val
        have HS : Hid (gs[k]? = some g ∧ RowE wr (.slice a2 g.2.length cap2) g.2) := ⟨hs, hS⟩
        clear hs hS
        go_wp2_with fail
        refine (szG_c g.1 _ g.2 r _ hsz HS.out.2 ⟨hr0, by omega⟩).mono ?_
        rintro e w2 ⟨r2, rfl, hr2, hb2⟩
        have HB : Hid (Below w.heap.size w w2) := HA.out.2.trans (hb2.mono HA.out.2.size)
        clear hb2
        rcases hr2 with rfl | ⟨g0, g1, g2, g3⟩
        · go_wp2
          go_ret
          exact ⟨_, rfl, .inl rfl, HB.out⟩
        · have H2 : Hid (BdE r.toNat g.2 ∧ g.1.size ≤ r.toNat) := ⟨g3, g2⟩
          have g0' : ¬ r2 < 0 := by omega
          clear g2 g3
          go_wp2
          go_roundw
          case rel =>
            refine ⟨k + 1, _, rfl, by go_num, by omega, by omega, by omega, by rw [ofs_succ HS.out.1, HFx.out]; omega, fun j t hj ht => ?_, HB.out⟩
            rcases Nat.lt_or_ge j k with q | q
            · exact HA.out.1 j t q ht
            · obtain rfl : j = k := by omega
              rw [HS.out.1] at ht
              cases ht
              have := H2.out.2
              exact ⟨by omega, Nat.le_trans H2.out.1.1 (by omega), fun i e hi => (H2.out.1.2 i e hi).mono (by omega)⟩
          case measure => simp [intOf]; omega
      · obtain rfl : k = gs.length := by omega
        go_wp2
        go_ret
        refine ⟨r, rfl, .inr ⟨hr0, by rw [HF.out]; omega, by omega, fun j s hj => HA.out.1 j s ?_ hj⟩, HA.out.2⟩
        exact (List.getElem?_eq_some_iff.1 hj).1

end Go.Proofs.YthjddnhdfnhalaaDoor
