/- Contract of the model's l02Read. -/
import Derived.Test.YtbhionebejnbgaaReadL
import Derived.Test.YtbhionebejnbgaaUnSpec
import Derived.Test.YtbhionebejnbgaaRead1
import Derived.Deep.CutBlock
import Derived.Deep.RegionWith
namespace Go.Proofs.Ytbhionebejnbgaa
open Go.ChangeShapes Go.WideShapes Go.ChangeAt Go.RowKit Go.Shelf
theorem marks_apart {a b c d : Int} (h : rightB a b c d = true) : (d == a) = false ∧ (b == d) = false ∧ (c == d) = false := by
  unfold rightB at h
  simp [hasB] at h
  refine ⟨?_, ?_, ?_⟩
  · rw [beq_eq_false_iff_ne]
    omega
  · rw [beq_eq_false_iff_ne]
    omega
  · rw [beq_eq_false_iff_ne]
    omega
/-- What is told of what was read. -/
def rdQ (m : Int) (x : Int ⊕ Seg) : Int × Int × Int × Option Seg :=
  match x with
  | .inl e => (3, e, 0, none)
  | .inr g => (0, 0, m + 1, some g)
theorem rdI_q {a b c d : Int} {s q : ByteArray} (h0 : ¬ s.size = 0) (ht : takeR d a s = some q) : rdI a b c d s = rdQ q.size (segR a b c d q) := by
  unfold rdI rdQ
  rw [if_neg h0, ht]
  rfl
/-- The pieces lie in block g. -/
def PcAt (W : World) (g : Nat) (L : List ByteArray) : Prop := g < W.heap.size ∧ ∀ (j : Nat) (p : ByteArray), L[j]? = some p → W.cell? ⟨g, j, none⟩ = some (.string p)
theorem PcAt.belowN {W W' : World} {g n : Nat} {L : List ByteArray} (h : PcAt W g L) (hb : Below n W W') (hn : g < n) : PcAt W' g L :=
  ⟨Nat.lt_of_lt_of_le h.1 hb.size, fun j p hj => (hb.cell (p := ⟨g, j, none⟩) hn).trans (h.2 j p hj)⟩
theorem PcAt.below {W W' : World} {g : Nat} {L : List ByteArray} (h : PcAt W g L) (hb : Below W.heap.size W W') : PcAt W' g L := h.belowN hb h.1
theorem l01Cut_p (a b c d : Int) (s : ByteArray) (y : Int) (w : World) (hs : s.size ≤ 20000) (hyd : (y == d) = false) :
    Calls Try.prog 57 #[.agg #[.int .i64 a, .int .i64 b, .int .i64 c, .int .i64 d], .string s, .int .i64 y] w fun e w' => ∃ g cap, e = .returned (.slice (some ⟨g, 0, none⟩) (piecesS d y s).length cap) ∧ PcAt w' g (piecesS d y s) ∧ w.heap.size ≤ g ∧ Below w.heap.size w w' := by
  refine (l01Cut_any a b c d s y w hs hyd).mono ?_
  rintro e w' ⟨v, rfl, hrow, hb⟩
  rw [strs_pieces, show (cutZ y (upto s d s.size)).1.length + 1 = (piecesS d y s).length by simp [piecesS]] at hrow
  have hpp := pieces_pos d y s
  rcases hrow.2 with ⟨rfl, h0⟩ | ⟨g, cap, cur, rfl, hg, hgb, _⟩
  · omega
  · refine ⟨g, cap, rfl, ⟨(Array.getElem?_eq_some_iff.1 hgb).1, fun j p hj => ?_⟩, hg, hb⟩
    have h := hrow.cells (g := g) rfl j (.string p) (by simp [hj])
    have e : (⟨g, 0, none⟩ : Addr).add j = ⟨g, j, none⟩ := by unfold Addr.add; split <;> simp_all
    rwa [e] at h
/-- What is told of the elements once the tag is right. -/
def sgEnd (m : Nat) (tag : ByteArray) (x : Int ⊕ List (List ByteArray)) : Int ⊕ Seg :=
  match x with
  | .inl e => .inl e
  | .inr es => if blankB es = true then .inl m else .inr (tag, es)
set_option maxHeartbeats 400000 in
theorem l02Wrong_any (n : Int) (w : World) : Calls Try.prog 58 #[.int .i64 n] w fun e w' => e = .returned (.agg #[.string ⟨#[]⟩, .slice none 0 0, .int .i64 0, .int .i64 n, .int .i64 3]) ∧ Below w.heap.size w w' := by
  go_enter Try.func58, Try.ntmps58
  go_wp2
  exact bodyPost_ret (v := .agg #[.string ⟨#[]⟩, .slice none 0 0, .int .i64 0, .int .i64 n, .int .i64 3]) (by simp [results, Try.results58, go_sem]) rfl ⟨rfl, (Below.refl _ _).alloc (Nat.le_refl _) _⟩
theorem set5 {h : Nat} {w W : World} (hb : Below h w W) (v0 v1 v2 v3 v4 : Value) : Below h w (((((W.setCell ⟨h + 1, 0, none⟩ v0).setCell ⟨h + 1, 1, none⟩ v1).setCell ⟨h + 1, 2, none⟩ v2).setCell ⟨h + 1, 3, none⟩ v3).setCell ⟨h + 1, 4, none⟩ v4) :=
  ((((hb.setCell (show h ≤ h + 1 by omega) _).setCell (show h ≤ h + 1 by omega) _).setCell (show h ≤ h + 1 by omega) _).setCell (show h ≤ h + 1 by omega) _).setCell (show h ≤ h + 1 by omega) _
/-- What is told of an element's parts. -/
def elEnd (x : Int ⊕ List ByteArray) : Int ⊕ List ByteArray :=
  match x with
  | .inl e => .inl e
  | .inr ps => if endsE ps = true then .inl 0 else .inr ps
/-- What is told of the elements from one on. -/
def sgElem (a b c d : Int) (x : Int ⊕ List ByteArray) (L : List ByteArray) (i : Nat) (at_ : Int) (n : Nat) (acc : List (List ByteArray)) : Int ⊕ List (List ByteArray) :=
  match x with
  | .inl e => .inl (at_ + e)
  | .inr ps => sgScan a b c d L (i + 1) (at_ + n + 1) (acc ++ [ps])
theorem keep3 {W : World} {B b o : Nat} {v v0 v1 v2 : Value} (h : W.cell? ⟨b, o, none⟩ = some v) (hb : b ≠ B) : (((W.setCell ⟨B, 0, none⟩ v0).setCell ⟨B, 1, none⟩ v1).setCell ⟨B, 2, none⟩ v2).cell? ⟨b, o, none⟩ = some v := by
  rw [World.cell?_setCell_other _ _ _ _ (by simp <;> omega), World.cell?_setCell_other _ _ _ _ (by simp <;> omega), World.cell?_setCell_other _ _ _ _ (by simp <;> omega)]
  exact h
theorem set3_new {W : World} {B t : Nat} {z0 z1 z2 : Value} (v0 v1 v2 : Value) (hb : W.heap[B]? = some (.cells #[z0, z1, z2] t)) : (((W.setCell ⟨B, 0, none⟩ v0).setCell ⟨B, 1, none⟩ v1).setCell ⟨B, 2, none⟩ v2).heap[B]? = some (.cells #[v0, v1, v2] t) :=
  heap_setCell_same _ B 2 _ t v2 (heap_setCell_same _ B 1 _ t v1 (heap_setCell_same W B 0 _ t v0 hb))
theorem set3_bel {n B : Nat} {w W : World} (hb : Below n w W) (hB : n ≤ B) (v0 v1 v2 : Value) : Below n w (((W.setCell ⟨B, 0, none⟩ v0).setCell ⟨B, 1, none⟩ v1).setCell ⟨B, 2, none⟩ v2) :=
  ((hb.setCell hB _).setCell hB _).setCell hB _
/-- What stands when a part has been put onto an element's. -/
structure StpE (w3 w7 : World) (B : Nat) (v : Value) (n : Nat) (ss : List ByteArray) : Prop where
  own : w7.ownsRow (B + 1) 9 1 v n (ss.map Value.string)
  box : ∃ u, w7.heap[B]? = some (.cells #[u] 59)
  below : Below B w3 w7
  z : w7.frozen? ⟨B, 0, none⟩ = false
  cell : ∃ u, w7.cell? ⟨B, 0, none⟩ = some u
  sz : B < w7.heap.size
theorem stpE {w3 W6 w7 : World} {v v' : Value} {ss ss' : List ByteArray} {x : Obj} {p : ByteArray} {j : Nat} (hp : W6.heap[w3.heap.size]? = some (.cells #[v] 59) ∧ W6.ownsRow (w3.heap.size + 1) 9 1 v j (ss.map Value.string) ∧ Below w3.heap.size w3 W6)
    (hg : (W6.alloc x).grownBy w7 v.ownBlock) (hown : w7.ownsRow (w3.heap.size + 1) 9 1 v' (j + 1) (ss.map Value.string ++ [.string p])) (hss : ss' = ss ++ [p]) : StpE w3 w7 w3.heap.size v' (j + 1) ss' := by
  subst hss
  obtain ⟨hE, hr, hb⟩ := hp
  have hlt := (Array.getElem?_eq_some_iff.1 hE).1
  have hE7 : w7.heap[w3.heap.size]? = some (.cells #[v] 59) := by
    rw [hg.block w3.heap.size (by simp; omega) (row_lt hr (by omega)), Below.heap_alloc _ _ _ hlt]
    exact hE
  exact ⟨by simpa using hown, ⟨_, hE7⟩, (hb.alloc hb.size _).grown hg (by have := hb.size; simp; omega) (fun j hj => Nat.le_of_succ_le (row_base hr j hj)), by simp [World.frozen?, hE7], ⟨v, by simp [World.cell?, hE7]⟩, (Array.getElem?_eq_some_iff.1 hE7).1⟩
theorem stp2 {w2 wo W w7 : World} {tag : ByteArray} {A : Option Addr} {N C : Nat} {u v4 : Value} {vals : List Value} {acc : List (List ByteArray)} {ps : List ByteArray} {x : Obj}
    (hp : OwnV (w2.heap.size + 1) wo (.slice A N C) vals acc ∧ Below wo.heap.size wo W ∧ W.ownsRow wo.heap.size 9 1 u ps.length (ps.map Value.string) ∧ W.heap[w2.heap.size]? = some (.cells #[.string tag, .slice A N C] 27) ∧ Below w2.heap.size w2 W ∧ OwnV (w2.heap.size + 1) W (.slice A N C) vals acc) (hp0 : 0 < ps.length) (hw : w2.heap.size + 1 ≤ wo.heap.size)
    (hg : (W.alloc x).grownBy w7 (Value.slice A N C).ownBlock) (hown : w7.ownsRow (w2.heap.size + 1) 59 1 v4 (acc.length + 1) (vals ++ [u])) : Stp w2 w7 w2.heap.size tag v4 (vals ++ [u]) (acc ++ [ps]) := by
  obtain ⟨hO, hb, hu, hG, hbb, _⟩ := hp
  have hs2 := hb.size
  have hG7 : w7.heap[w2.heap.size]? = some (.cells #[.string tag, .slice A N C] 27) := by
    rw [hg.block w2.heap.size (by simp; omega) (row_lt hO.row (by omega)), Below.heap_alloc _ _ _ (by omega)]
    exact hG
  refine ⟨hO.push hw hb hu hp0 ((Below.refl _ _).alloc (Nat.le_refl _) _) hown hg, ⟨_, hG7⟩, (hbb.alloc hbb.size _).grown hg (by simp; omega) (fun j hj => Nat.le_of_succ_le (row_base hO.row j hj)), by simp [World.frozen?, hG7], ⟨.slice A N C, by simp [World.cell?, hG7]⟩, (Array.getElem?_eq_some_iff.1 hG7).1⟩
/-- The syntax's block and the answer's. -/
structure L2 (w W : World) (a b c d : Int) : Prop where
  bel : Below w.heap.size w W
  sx : W.heap[w.heap.size]? = some (.cells #[.int .i64 a, .int .i64 b, .int .i64 c, .int .i64 d] 24)
  rx : W.heap[w.heap.size + 1]? = some (.cells #[.string ⟨#[]⟩, .slice none 0 0, .int .i64 0, .int .i64 0, .int .i64 0] 34)
theorem L2.lt {w W : World} {a b c d : Int} (h : L2 w W a b c d) : w.heap.size + 2 ≤ W.heap.size := (Array.getElem?_eq_some_iff.1 h.rx).1
theorem L2.belowN {w W W' : World} {a b c d : Int} {n : Nat} (h : L2 w W a b c d) (hb : Below n W W') (hn : w.heap.size + 2 ≤ n) : L2 w W' a b c d :=
  ⟨h.bel.trans (hb.mono (by omega)), (hb.block _ (by omega)).trans h.sx, (hb.block _ (by omega)).trans h.rx⟩
theorem L2.below {w W W' : World} {a b c d : Int} (h : L2 w W a b c d) (hb : Below W.heap.size W W') : L2 w W' a b c d := h.belowN hb h.lt
theorem L2.syn {w W : World} {a b c d : Int} (h : L2 w W a b c d) : W.cell? ⟨w.heap.size, 0, none⟩ = some (.int .i64 a) ∧ W.cell? ⟨w.heap.size, 1, none⟩ = some (.int .i64 b) ∧ W.cell? ⟨w.heap.size, 2, none⟩ = some (.int .i64 c) ∧ W.cell? ⟨w.heap.size, 3, none⟩ = some (.int .i64 d) := by
  have h1 := h.sx
  exact ⟨by simp [World.cell?, h1], by simp [World.cell?, h1], by simp [World.cell?, h1], by simp [World.cell?, h1]⟩
theorem L2.out {w W : World} {a b c d : Int} (h : L2 w W a b c d) : W.cell? ⟨w.heap.size + 1, 0, none⟩ = some (.string ⟨#[]⟩) ∧ W.cell? ⟨w.heap.size + 1, 1, none⟩ = some (.slice none 0 0) ∧ W.cell? ⟨w.heap.size + 1, 2, none⟩ = some (.int .i64 0) ∧ W.cell? ⟨w.heap.size + 1, 3, none⟩ = some (.int .i64 0) ∧ W.cell? ⟨w.heap.size + 1, 4, none⟩ = some (.int .i64 0) ∧ ∀ o, W.frozen? ⟨w.heap.size + 1, o, none⟩ = false := by
  have h1 := h.rx
  exact ⟨by simp [World.cell?, h1], by simp [World.cell?, h1], by simp [World.cell?, h1], by simp [World.cell?, h1], by simp [World.cell?, h1], fun o => by simp [World.frozen?, h1]⟩
set_option maxRecDepth 20000 in
set_option maxHeartbeats 4000000 in
theorem l02Read_any (a b c d : Int) (s : ByteArray) (w : World) (hright : rightB a b c d = true) (hs : s.size ≤ 20000) :
    Calls Try.prog 39 #[.agg #[.int .i64 a, .int .i64 b, .int .i64 c, .int .i64 d], .string s] w fun e w' => ∃ (tag : ByteArray) (v : Value), e = .returned (.agg #[.string tag, v, .int .i64 (rdI a b c d s).2.2.1, .int .i64 (rdI a b c d s).2.1, .int .i64 (rdI a b c d s).1]) ∧ RdOut w.heap.size w' (rdI a b c d s).2.2.2 tag v ∧ Below w.heap.size w w' := by
  go_enter Try.func39, Try.ntmps39
  obtain ⟨r, hr⟩ : ∃ r, r = rdI a b c d s := ⟨_, rfl⟩
  rw [← hr]
  have HR : Hid (r = rdI a b c d s) := hr
  clear hr
  have HA : Hid ((d == a) = false ∧ (b == d) = false ∧ (c == d) = false) := marks_apart hright
  by_cases h0 : s.size = 0
  · have hse : s = ⟨#[]⟩ := by
      apply ByteArray.ext
      apply Array.toList_inj.1
      exact List.length_eq_zero_iff.1 (by simpa using h0)
    subst hse
    have hr : r = (6, 0, 0, none) := by rw [HR.out]; rfl
    subst hr
    go_wp2
    exact bodyPost_ret (v := .agg #[.string ⟨#[]⟩, .slice none 0 0, .int .i64 0, .int .i64 0, .int .i64 6]) (by simp [results, Try.results39, go_sem]) rfl ⟨_, _, rfl, ⟨rfl, rfl⟩, ((Below.refl _ _).alloc (Nat.le_refl _) _).alloc (by simp) _⟩
  · have hpos : (0 : Int) < (s.size : Int) := by omega
    have hne : isE s = false := by
      cases h : isE s
      · rfl
      · exact absurd ((isE_iff s).1 h) h0
    unfold isE at hne
    have hBW : Below w.heap.size w ((w.alloc (.cells #[.int .i64 a, .int .i64 b, .int .i64 c, .int .i64 d] 24)).alloc (.cells #[.string ⟨#[]⟩, .slice none 0 0, .int .i64 0, .int .i64 0, .int .i64 0] 34)) := ((Below.refl _ _).alloc (Nat.le_refl _) _).alloc (by simp) _
    have HW : Hid (L2 w ((w.alloc (.cells #[.int .i64 a, .int .i64 b, .int .i64 c, .int .i64 d] 24)).alloc (.cells #[.string ⟨#[]⟩, .slice none 0 0, .int .i64 0, .int .i64 0, .int .i64 0] 34)) a b c d) := ⟨hBW, (Below.heap_alloc _ _ _ (by simp)).trans (World.alloc_heap_new w _), heap_new2 w _ _⟩
    clear hBW
    go_upto_block 0 with fail
    go_cut [5, 6] from 16 to 45 (fun en i wx => L2 w wx a b c d ∧ ((en = .int .i64 (-1) ∧ takeR d a s = none) ∨ ∃ m : Nat, en = .int .i64 m ∧ m < s.size ∧ takeR d a s = some (s.extract 0 m)))
    case first =>
      go_wp2_with fail
      go_loopw [5, 6] (fun en i wr => ∃ k : Nat, i = .int .i64 k ∧ k ≤ s.size + 1 ∧ L2 w wr a b c d ∧ ((en = .int .i64 (-1) ∧ (∀ j, j < k → j < s.size → isBy a (item s d j) = false) ∧ (k ≤ s.size → st s d k = false)) ∨ (∃ m : Nat, en = .int .i64 m ∧ m < s.size ∧ takeR d a s = some (s.extract 0 m)))) (fun _ i _ => s.size + 2 - (intOf i).toNat)
      case atStart => exact ⟨0, rfl, by omega, HW.out, .inl ⟨rfl, fun j hj => by omega, fun _ => rfl⟩⟩
      case round =>
        obtain ⟨k, rfl, hk, hL, hcase⟩ := hrel
        have hka : (s.size : Int) ≤ 20000 := by omega
        rcases hcase with ⟨rfl, hn, hst⟩ | ⟨m, rfl, hm, ht⟩
        · by_cases hlt : k < s.size
          · have hlt' : (k : Int) < (s.size : Int) := by omega
            have hx0 : 0 ≤ ((s[k]'hlt).toNat : Int) := by omega
            have hx1 : ((s[k]'hlt).toNat : Int) ≤ 255 := by have := (s[k]'hlt).toNat_lt; omega
            obtain ⟨c0, c1, c2, c3⟩ := hL.syn
            have HG : Hid (L2 w wr a b c d ∧ (∀ j, j < k → j < s.size → isBy a (item s d j) = false) ∧ st s d k = false) := ⟨hL, hn, hst (by omega)⟩
            clear hn hst hL c1 c2
            cases hd : (((s[k]'hlt).toNat : Int) == d)
            · cases hy : (((s[k]'hlt).toNat : Int) == a)
              · go_wp2_with fail
                go_quiet (fail)
                go_wp2_with fail
                go_quiet (fail)
                go_wp2
                go_roundw
                case rel =>
                  refine ⟨k + 1, by go_num, by omega, HG.out.1.below (below_drewN (Below.refl _ _) _), .inl ⟨rfl, fun j hj hjs => ?_, fun _ => ?_⟩⟩
                  · by_cases e : j = k
                    · subst e
                      rw [item_eq s d j hlt]
                      simp [isBy, hy]
                    · exact HG.out.2.1 j (by omega) hjs
                  · rw [st_succ s d k hlt, hd]
                    simp
                case measure => simp [intOf]; omega
              · go_wp2_with fail
                go_quiet (fail)
                go_wp2_with fail
                go_quiet (fail)
                go_wp2
                go_roundw
                case rel =>
                  refine ⟨k + 1, by go_num, by omega, HG.out.1.below (below_drewN (Below.refl _ _) _), .inr ⟨k, rfl, hlt, take_at hlt (fun j hj => HG.out.2.1 j hj (by omega)) ?_⟩⟩
                  rw [item_eq s d k hlt]
                  simp [isBy, hy, HG.out.2.2]
                case measure => simp [intOf]; omega
            · have hyn : (((s[k]'hlt).toNat : Int) == a) = false := by
                have e1 : ((s[k]'hlt).toNat : Int) = d := by simpa using hd
                rw [e1]
                exact HA.out.1
              go_wp2_with fail
              go_quiet (fail)
              go_wp2
              go_roundw
              case rel =>
                refine ⟨k + 1 + 1, by go_num, by omega, HG.out.1.below (below_drewN (Below.refl _ _) _), .inl ⟨rfl, fun j hj hjs => ?_, fun hk2 => ?_⟩⟩
                · by_cases e : j = k
                  · subst e
                    rw [item_eq s d j hlt]
                    simp [isBy, hyn]
                  · by_cases e2 : j = k + 1
                    · subst e2
                      have hst1 : st s d (k + 1) = true := by rw [st_succ s d k hlt, HG.out.2.2, hd]; rfl
                      rw [item_eq s d (k + 1) hjs, hst1]
                      simp [isBy]
                    · exact HG.out.2.1 j (by omega) hjs
                · have hst1 : st s d (k + 1) = true := by rw [st_succ s d k hlt, HG.out.2.2, hd]; rfl
                  rw [st_succ s d (k + 1) (by omega), hst1]
                  rfl
              case measure => simp [intOf]; omega
          · have hge : (s.size : Int) ≤ (k : Int) := by omega
            have HG : Hid (L2 w wr a b c d ∧ takeR d a s = none) := ⟨hL, take_non (fun j hj => hn j (by omega) hj)⟩
            clear hn hst hL
            go_wp2
            go_meet
            case rel => exact ⟨HG.out.1, .inl ⟨rfl, HG.out.2⟩⟩
        · have hm0 : ¬ (m : Int) < 0 := by omega
          have HG : Hid (L2 w wr a b c d ∧ takeR d a s = some (s.extract 0 m)) := ⟨hL, ht⟩
          clear hL ht
          by_cases hlt : k < s.size
          · have hlt' : (k : Int) < (s.size : Int) := by omega
            go_wp2
            go_meet
            case rel => exact ⟨HG.out.1, .inr ⟨m, rfl, hm, HG.out.2⟩⟩
          · have hge : (s.size : Int) ≤ (k : Int) := by omega
            go_wp2
            go_meet
            case rel => exact ⟨HG.out.1, .inr ⟨m, rfl, hm, HG.out.2⟩⟩
    case rest =>
      obtain ⟨hL, hcase⟩ := hcut
      clear HW
      rcases hcase with ⟨rfl, ht⟩ | ⟨m, rfl, hm, ht⟩
      · have hr : r = (4, 0, 0, none) := by rw [HR.out]; unfold rdI; rw [if_neg h0, ht]
        subst hr
        obtain ⟨c0, c1, c2, c3, c4, zz⟩ := hL.out
        have HB : Hid (Below w.heap.size w wc) := hL.bel
        clear hL ht
        go_wp2
        exact bodyPost_ret (v := .agg #[.string ⟨#[]⟩, .slice none 0 0, .int .i64 0, .int .i64 0, .int .i64 4]) (by simp [results, Try.results39, go_sem, c0, c1, c2, c3, c4]) rfl ⟨_, _, rfl, ⟨rfl, rfl⟩, ((((HB.out.setCell (show w.heap.size ≤ w.heap.size + 1 by omega) _).setCell (show w.heap.size ≤ w.heap.size + 1 by omega) _).setCell (show w.heap.size ≤ w.heap.size + 1 by omega) _).setCell (show w.heap.size ≤ w.heap.size + 1 by omega) _).setCell (show w.heap.size ≤ w.heap.size + 1 by omega) _⟩
      · obtain ⟨q, hq⟩ : ∃ q, q = s.extract 0 m := ⟨_, rfl⟩
        have hqs : q.size = m := by rw [hq, ByteArray.size_extract]; omega
        have hrR : r = rdQ m (segR a b c d q) := by
          rw [HR.out, rdI_q h0 ht, ← hq, hqs]
        have HQ : Hid (r = rdQ m (segR a b c d q)) := hrR
        have HX : Hid (q = s.extract 0 m) := hq
        obtain ⟨y0, y1, y2, y3⟩ := hL.syn
        have HL : Hid (L2 w wc a b c d) := hL
        have hm0 : (0 : Int) ≤ (m : Int) := by omega
        have hms : (m : Int) ≤ (s.size : Int) := by omega
        have hms2 : (m : Int) ≤ 20000 := by omega
        clear hrR hq hL ht HR
        have hqx : s.extract 0 m = q := HX.out.symm
        have HX2 : Hid (s.extract 0 m = q) := hqx
        clear hqx
        go_upto_region 13 with fail
        go_cut [7] from 46 to 55 (fun v wx => L2 w wx a b c d ∧ ∃ g cap, v = .slice (some ⟨g, 0, none⟩) (piecesS d b q).length cap ∧ PcAt wx g (piecesS d b q) ∧ w.heap.size + 2 ≤ g)
        case first =>
          go_region_with (go_at_call 57; refine (l01Cut_p a b c d (s.extract 0 m) b _ (by rw [ByteArray.size_extract]; omega) HA.out.2.1).mono ?_; rintro e w2 ⟨g, cap, rfl, hP, hg, hb2⟩)
          all_goals (go_wp2_with fail; go_meet)
          all_goals (rw [HX2.out] at hP ⊢; exact ⟨HL.out.below ((Below.refl _ _).drew.trans hb2), g, cap, rfl, hP, Nat.le_trans HL.out.lt hg⟩)
        case rest =>
          obtain ⟨hL, g, cap, rfl, hP, hg⟩ := hcut
          clear HL y0 y1 y2 y3 HX HX2
          have hpp := pieces_pos d b q
          have hpl := pieces_len d b q
          have hsum := pieces_sum d b q
          have hpz := pieces_size d b q
          obtain ⟨L, hLL⟩ : ∃ L, L = piecesS d b q := ⟨_, rfl⟩
          obtain ⟨tag, htg⟩ : ∃ t, (piecesS d b q)[0]? = some t := ⟨_, List.getElem?_eq_getElem hpp⟩
          have hseg : segR a b c d q = if tagB tag = true then sgEnd m tag (sgScan a b c d (L.drop 1) 0 (tag.size + 1) []) else .inl 0 := by
            unfold segR
            simp only
            rw [htg, ← hLL, ← hqs]
            rfl
          rw [← hLL] at hP hpp hpl hsum hpz htg ⊢
          have hc0 := hP.2 0 tag htg
          have htz := hpz tag (List.mem_of_getElem? htg)
          have HS : Hid (r = rdQ m (if tagB tag = true then sgEnd m tag (sgScan a b c d (L.drop 1) 0 (tag.size + 1) []) else .inl 0)) := by
            show r = _
            rw [HQ.out, hseg]
          have HP : Hid (PcAt wc g L ∧ L2 w wc a b c d ∧ L[0]? = some tag ∧ sumP L = m + 1 ∧ ∀ p ∈ L, p.size ≤ q.size) := ⟨hP, hL, htg, by rw [hsum, hqs], hpz⟩
          have hsz := hL.lt
          have hglt := hP.1
          clear hP hL htg hsum hpz hseg HQ hLL
          have hpi : (0 : Int) < (L.length : Int) := by omega
          go_wp2_with fail
          refine (l02Tag_any tag _).mono ?_
          rintro e w2 ⟨rfl, rfl⟩
          cases hT : tagB tag
          · have hr : r = (3, 0, 0, none) := by rw [HS.out, hT]; rfl
            subst hr
            go_wp2_with fail
            refine (l02Wrong_any 0 _).mono ?_
            rintro e w3 ⟨rfl, hb3⟩
            have hL3 := HP.out.2.1.below hb3
            obtain ⟨c0, c1, c2, c3, c4, zz⟩ := hL3.out
            have HB : Hid (Below w.heap.size w w3) := hL3.bel
            clear hL3 hb3 HP HS
            go_wp2
            exact bodyPost_ret (v := .agg #[.string ⟨#[]⟩, .slice none 0 0, .int .i64 0, .int .i64 0, .int .i64 3]) (by simp [results, Try.results39, go_sem, c0, c1, c2, c3, c4]) rfl ⟨_, _, rfl, ⟨rfl, rfl⟩, set5 HB.out _ _ _ _ _⟩
          · have hS2 : r = rdQ m (sgEnd m tag (sgScan a b c d (L.drop 1) 0 (tag.size + 1) [])) := by rw [HS.out, hT]; rfl
            have HS2 : Hid (r = rdQ m (sgEnd m tag (sgScan a b c d (L.drop 1) 0 (tag.size + 1) []))) := hS2
            have hq20 : q.size ≤ 20000 := by omega
            clear HS hS2
            have hGn := World.alloc_heap_new w2 (.cells #[.string tag, .slice none 0 0] 27)
            have hbG : Below w2.heap.size w2 (w2.alloc (.cells #[.string tag, .slice none 0 0] 27)) := (Below.refl _ _).alloc (Nat.le_refl _) _
            have HGn : Hid ((w2.alloc (.cells #[.string tag, .slice none 0 0] 27)).heap[w2.heap.size]? = some (.cells #[.string tag, .slice none 0 0] 27) ∧ Below w2.heap.size w2 (w2.alloc (.cells #[.string tag, .slice none 0 0] 27))) := ⟨hGn, hbG⟩
            clear hGn hbG
            go_wp2_with fail
            go_loopw [9, 10] (fun x i wr => ∃ (k y : Nat) (acc : List (List ByteArray)) (v : Value) (vals : List Value), x = .int .i64 (y : Int) ∧ i = .int .i64 ((k : Int) + 1) ∧ k + 1 ≤ L.length ∧ acc.length = k ∧ k ≤ 10 ∧ y + sumP (L.drop (k + 1)) = m + 1 ∧ BdX acc ∧ sgScan a b c d (L.drop 1) 0 (tag.size + 1) [] = sgScan a b c d (L.drop (k + 1)) k y acc ∧ (k + 1 = L.length → blankB acc = false) ∧ wr.heap[w2.heap.size]? = some (.cells #[.string tag, v] 27) ∧ OwnV (w2.heap.size + 1) wr v vals acc ∧ Below w2.heap.size w2 wr) (fun _ i _ => L.length - (intOf i).toNat)
            case atStart =>
              refine ⟨0, tag.size + 1, [], .slice none 0 0, [], by go_num, rfl, by omega, rfl, by omega, ?_, fun e he => by simp at he, by rw [show ((tag.size + 1 : Nat) : Int) = (tag.size : Int) + 1 by omega], fun _ => rfl, HGn.out.1, ⟨rfl, World.ownsRow_nil _ _ _ _, fun i u e hu => by simp at hu, fun i j u x _ hu => by simp at hu⟩, HGn.out.2⟩
              have h1 := HP.out.2.2.2.1
              obtain ⟨t0, L1, rfl⟩ : ∃ t0 L1, L = t0 :: L1 := by
                cases L with
                | nil => simp at hpp
                | cons t0 L1 => exact ⟨_, _, rfl⟩
              have h2 := HP.out.2.2.1
              simp at h2
              subst h2
              rw [sumP_cons] at h1
              simpa using h1
            case round =>
              obtain ⟨k, y, acc, v, vals, rfl, rfl, hk, hac, hk10, hyk, hX, hsc, hbl, hG, hO, hb⟩ := hrel
              have hwr := hb.size
              have hGlt := (Array.getElem?_eq_some_iff.1 hG).1
              by_cases hlt : k + 1 < L.length
              · obtain ⟨p, hp⟩ : ∃ p, L[k + 1]? = some p := ⟨_, List.getElem?_eq_getElem hlt⟩
                have hps : p.size ≤ 20000 := Nat.le_trans (HP.out.2.2.2.2 p (List.mem_of_getElem? hp)) hq20
                have hPr := HP.out.1.below hb
                have hLr := HP.out.2.1.below hb
                have hck := hPr.2 (k + 1) p hp
                have hdr : L.drop (k + 1) = p :: L.drop (k + 1 + 1) := by
                  rw [List.drop_eq_getElem_cons hlt]
                  rw [List.getElem?_eq_getElem hlt] at hp
                  rw [Option.some.inj hp]
                rw [hdr] at hsc hyk
                rw [sumP_cons] at hyk
                obtain ⟨y0, y1, y2, y3⟩ := hLr.syn
                have hgr := hPr.1
                have hlt' : (k : Int) + 1 < (L.length : Int) := by omega
                have hym : y ≤ 20001 := by omega
                have hLl : L.length ≤ 20001 := by omega
                have H1 : Hid (PcAt wr g L ∧ L2 w wr a b c d ∧ sgScan a b c d (L.drop 1) 0 (tag.size + 1) [] = sgScan a b c d (p :: L.drop (k + 1 + 1)) k y acc ∧ wr.heap[w2.heap.size]? = some (.cells #[.string tag, v] 27) ∧ OwnV (w2.heap.size + 1) wr v vals acc ∧ Below w2.heap.size w2 wr ∧ BdX acc) := ⟨hPr, hLr, hsc, hG, hO, hb, hX⟩
                clear hPr hLr hsc hG hO hb hX hp hdr hbl HGn
                go_upto_region 21 with fail
                go_cut [11] from 71 to 175 (fun v wx => ∃ g3 cap3, v = .slice (some ⟨g3, 0, none⟩) (piecesS d c p).length cap3 ∧ PcAt wx g3 (piecesS d c p) ∧ wr.heap.size ≤ g3 ∧ Below wr.heap.size wr wx)
                case first =>
                  go_region_with (go_at_call 57; refine (l01Cut_p a b c d p c _ hps HA.out.2.2).mono ?_; rintro e w3 ⟨g3, cap3, rfl, hP3, hg3, hb3⟩)
                  all_goals (go_wp2_with fail; go_meet)
                  all_goals exact ⟨g3, cap3, rfl, hP3, hg3, (Below.refl _ _).drew.trans hb3⟩
                case rest =>
                  obtain ⟨g3, cap3, rfl, hP3, hg3, hb3⟩ := hcut
                  obtain ⟨w3, hw3⟩ : ∃ w3, w3 = wc := ⟨_, rfl⟩
                  subst hw3
                  obtain ⟨wo, hwo⟩ : ∃ wo, wo = wr := ⟨_, rfl⟩
                  subst hwo
                  have w3s := hb3.size
                  have hpp3 := pieces_pos d c p
                  have hpl3 := pieces_len d c p
                  have hpz3 := pieces_size d c p
                  obtain ⟨P, hPP⟩ : ∃ P, P = piecesS d c p := ⟨_, rfl⟩
                  have hEl : elemR a b c d p = if 4 < P.length then .inl 0 else elEnd (elScan a b c d P 0 []) := by rw [hPP]; rfl
                  have hbk : ∀ (hf : ∀ x ∈ P, faultF a b c d x < 0), blank1 (P.map (plainS d)) = true → p.size = 0 := by rw [hPP]; exact fun hf => blank_plain hf
                  rw [← hPP] at hP3 hpp3 hpl3 hpz3 ⊢
                  have hL3 := H1.out.2.1.below hb3
                  have hgl3 := hP3.1
                  have H2 : Hid (PcAt w3 g3 P ∧ L2 w w3 a b c d ∧ Below wo.heap.size wo w3 ∧ (elemR a b c d p = if 4 < P.length then .inl 0 else elEnd (elScan a b c d P 0 [])) ∧ (∀ x ∈ P, x.size ≤ p.size) ∧ ((∀ x ∈ P, faultF a b c d x < 0) → blank1 (P.map (plainS d)) = true → p.size = 0)) := ⟨hP3, hL3, hb3, hEl, hpz3, hbk⟩
                  clear hP3 hL3 hb3 hEl hpz3 hbk hPP y0 y1 y2 y3
                  by_cases h10 : k = 10
                  · have d10 : (10 : Int) < (k : Int) + 1 := by omega
                    have hr : r = (3, (y : Int), 0, none) := by rw [HS2.out, H1.out.2.2.1]; simp only [sgScan]; rw [if_pos h10]; rfl
                    subst hr
                    go_wp2_with fail
                    refine (l02Wrong_any ((y : Int)) _).mono ?_
                    rintro e w9 ⟨rfl, hb9⟩
                    have hL9 := H2.out.2.1.below hb9
                    obtain ⟨c0, c1, c2, c3, c4, zz⟩ := hL9.out
                    have HB : Hid (Below w.heap.size w w9) := hL9.bel
                    clear hL9 hb9
                    dsimp only
                    repeat (first | exact bodyPost_ret (v := .agg #[.string ⟨#[]⟩, .slice none 0 0, .int .i64 0, .int .i64 ((y : Int)), .int .i64 3]) (by simp [results, Try.results39, go_sem, c0, c1, c2, c3, c4]) rfl ⟨_, _, rfl, ⟨rfl, rfl⟩, set5 HB.out _ _ _ _ _⟩ | go_step | go_upon | go_back)
                  · have d10 : (k : Int) + 1 ≤ 10 := by omega
                    by_cases h4 : 4 < P.length
                    · have d4 : (4 : Int) < (P.length : Int) := by omega
                      have hr : r = (3, (y : Int), 0, none) := by rw [HS2.out, H1.out.2.2.1]; simp only [sgScan]; rw [if_neg h10, H2.out.2.2.2.1, if_pos h4]; simp [sgEnd, rdQ]
                      subst hr
                      go_wp2_with fail
                      refine (l02Wrong_any ((y : Int)) _).mono ?_
                      rintro e w9 ⟨rfl, hb9⟩
                      have hL9 := H2.out.2.1.below hb9
                      obtain ⟨c0, c1, c2, c3, c4, zz⟩ := hL9.out
                      have HB : Hid (Below w.heap.size w w9) := hL9.bel
                      clear hL9 hb9
                      dsimp only
                      repeat (first | exact bodyPost_ret (v := .agg #[.string ⟨#[]⟩, .slice none 0 0, .int .i64 0, .int .i64 ((y : Int)), .int .i64 3]) (by simp [results, Try.results39, go_sem, c0, c1, c2, c3, c4]) rfl ⟨_, _, rfl, ⟨rfl, rfl⟩, set5 HB.out _ _ _ _ _⟩ | go_step | go_upon | go_back)
                    · have d4 : (P.length : Int) ≤ 4 := by omega
                      have hS3 : sgScan a b c d (L.drop 1) 0 (tag.size + 1) [] = sgElem a b c d (elEnd (elScan a b c d P 0 [])) (L.drop (k + 1 + 1)) k y p.size acc := by
                        rw [H1.out.2.2.1]
                        simp only [sgScan]
                        rw [if_neg h10, H2.out.2.2.2.1, if_neg h4]
                        rfl
                      have HS3 : Hid (sgScan a b c d (L.drop 1) 0 (tag.size + 1) [] = sgElem a b c d (elEnd (elScan a b c d P 0 [])) (L.drop (k + 1 + 1)) k y p.size acc) := hS3
                      clear hS3
                      have hEn := World.alloc_heap_new w3 (.cells #[.slice none 0 0] 59)
                      have hbE : Below w3.heap.size w3 (w3.alloc (.cells #[.slice none 0 0] 59)) := (Below.refl _ _).alloc (Nat.le_refl _) _
                      have HEn : Hid ((w3.alloc (.cells #[.slice none 0 0] 59)).heap[w3.heap.size]? = some (.cells #[.slice none 0 0] 59) ∧ Below w3.heap.size w3 (w3.alloc (.cells #[.slice none 0 0] 59))) := ⟨hEn, hbE⟩
                      clear hEn hbE
                      go_wp2_with fail
                      go_loopw [13, 14] (fun fr i wq => ∃ (j f : Nat) (v3 : Value), fr = .int .i64 ((y : Int) + (f : Int)) ∧ i = .int .i64 (j : Int) ∧ j ≤ P.length ∧ f ≤ 20001 * j ∧ (∀ x ∈ P.take j, faultF a b c d x < 0) ∧ (∀ x ∈ P.take j, (plainS d x).size ≤ 40) ∧ elScan a b c d P 0 [] = elScan a b c d (P.drop j) f ((P.take j).map (plainS d)) ∧ wq.heap[w3.heap.size]? = some (.cells #[v3] 59) ∧ wq.ownsRow (w3.heap.size + 1) 9 1 v3 j (((P.take j).map (plainS d)).map Value.string) ∧ Below w3.heap.size w3 wq) (fun _ i _ => P.length - (intOf i).toNat)
                      case atStart => exact ⟨0, 0, .slice none 0 0, by go_num, rfl, by omega, by omega, fun x hx => by simp at hx, fun x hx => by simp at hx, rfl, HEn.out.1, World.ownsRow_nil _ _ _ _, HEn.out.2⟩
                      case round =>
                        obtain ⟨j, f, v3, rfl, rfl, hj, hf, hfa, hz, hsc3, hE3, hrow3, hb4⟩ := hrel
                        have hw4 := hb4.size
                        have hEl3 := (Array.getElem?_eq_some_iff.1 hE3).1
                        have hL4 := H2.out.2.1.below hb4
                        have hP4 := H2.out.1.below hb4
                        clear HEn
                        by_cases hj2 : j < P.length
                        · obtain ⟨pp, hpp⟩ : ∃ x, P[j]? = some x := ⟨_, List.getElem?_eq_getElem hj2⟩
                          have hppz : pp.size ≤ 20000 := Nat.le_trans (H2.out.2.2.2.2.1 pp (List.mem_of_getElem? hpp)) hps
                          have hcj := hP4.2 j pp hpp
                          have hdr3 : P.drop j = pp :: P.drop (j + 1) := by
                            rw [List.drop_eq_getElem_cons hj2]
                            rw [List.getElem?_eq_getElem hj2] at hpp
                            rw [Option.some.inj hpp]
                          have htk3 : P.take (j + 1) = P.take j ++ [pp] := by rw [List.take_add_one, hpp]; rfl
                          rw [hdr3] at hsc3
                          obtain ⟨y0, y1, y2, y3⟩ := hL4.syn
                          have hj2' : (j : Int) < (P.length : Int) := by omega
                          have hgl4 := hP4.1
                          have hlw := hL4.lt
                          have H3 : Hid ((∀ x ∈ P.take j, faultF a b c d x < 0) ∧ (∀ x ∈ P.take j, (plainS d x).size ≤ 40) ∧ elScan a b c d P 0 [] = elScan a b c d (pp :: P.drop (j + 1)) f ((P.take j).map (plainS d)) ∧ wr.heap[w3.heap.size]? = some (.cells #[v3] 59) ∧ wr.ownsRow (w3.heap.size + 1) 9 1 v3 j (((P.take j).map (plainS d)).map Value.string) ∧ Below w3.heap.size w3 wr ∧ L2 w wr a b c d ∧ P.take (j + 1) = P.take j ++ [pp] ∧ P[j]? = some pp) := ⟨hfa, hz, hsc3, hE3, hrow3, hb4, hL4, htk3, hpp⟩
                          clear hfa hz hsc3 hE3 hrow3 hb4 hL4 hP4 htk3 hdr3 hpp
                          have x0 : (wr.drew.alloc (.cells #[.string ⟨#[]⟩, .int .i64 0, .int .i64 0] 105)).cell? ⟨w.heap.size, 0, none⟩ = some (.int .i64 a) := (((Below.refl _ _).drew.alloc (Nat.le_refl _) _).cell (p := ⟨w.heap.size, 0, none⟩) (show w.heap.size < wr.heap.size by omega)).trans y0
                          have x1 : (wr.drew.alloc (.cells #[.string ⟨#[]⟩, .int .i64 0, .int .i64 0] 105)).cell? ⟨w.heap.size, 1, none⟩ = some (.int .i64 b) := (((Below.refl _ _).drew.alloc (Nat.le_refl _) _).cell (p := ⟨w.heap.size, 1, none⟩) (show w.heap.size < wr.heap.size by omega)).trans y1
                          have x2 : (wr.drew.alloc (.cells #[.string ⟨#[]⟩, .int .i64 0, .int .i64 0] 105)).cell? ⟨w.heap.size, 2, none⟩ = some (.int .i64 c) := (((Below.refl _ _).drew.alloc (Nat.le_refl _) _).cell (p := ⟨w.heap.size, 2, none⟩) (show w.heap.size < wr.heap.size by omega)).trans y2
                          have x3 : (wr.drew.alloc (.cells #[.string ⟨#[]⟩, .int .i64 0, .int .i64 0] 105)).cell? ⟨w.heap.size, 3, none⟩ = some (.int .i64 d) := (((Below.refl _ _).drew.alloc (Nat.le_refl _) _).cell (p := ⟨w.heap.size, 3, none⟩) (show w.heap.size < wr.heap.size by omega)).trans y3
                          have xcj : (wr.drew.alloc (.cells #[.string ⟨#[]⟩, .int .i64 0, .int .i64 0] 105)).cell? ⟨g3, j, none⟩ = some (.string pp) := (((Below.refl _ _).drew.alloc (Nat.le_refl _) _).cell (p := ⟨g3, j, none⟩) (show g3 < wr.heap.size by omega)).trans hcj
                          go_upto_region 29 with fail
                          go_cut [15] from 96 to 136 (fun u wx => ∃ (U : Nat) (t : ByteArray) (at_ code : Int), u = .pointer (some ⟨U, 0, none⟩) ∧ wx.heap[U]? = some (.cells #[.string t, .int .i64 at_, .int .i64 code] 105) ∧ UnOut a b c d pp t at_ code ∧ wr.heap.size ≤ U ∧ Below wr.heap.size wr wx)
                          case first =>
                            go_region_held3 (fun W => W.cell? ⟨w.heap.size, 0, none⟩ = some (.int .i64 a) ∧ W.cell? ⟨w.heap.size, 1, none⟩ = some (.int .i64 b) ∧ W.cell? ⟨w.heap.size, 2, none⟩ = some (.int .i64 c) ∧ W.cell? ⟨w.heap.size, 3, none⟩ = some (.int .i64 d) ∧ W.cell? ⟨g3, j, none⟩ = some (.string pp)) (first | go_keep | exact ⟨keep3 z0 (by omega), keep3 z1 (by omega), keep3 z2 (by omega), keep3 z3 (by omega), keep3 zcj (by omega)⟩) (first | (go_at_call 59; refine (un_spec_right a b c d pp _ hppz hright).mono ?_; rintro e w5 ⟨t, at_, code, rfl, hU, hb5⟩; have z0 : w5.cell? ⟨w.heap.size, 0, none⟩ = some (.int .i64 a) := (by first | exact (hb5.cell (p := ⟨w.heap.size, 0, none⟩) (show w.heap.size < wr.heap.size by omega)).trans y0 | exact (hb5.cell (p := ⟨w.heap.size, 0, none⟩) (by simp; omega)).trans x0); have z1 : w5.cell? ⟨w.heap.size, 1, none⟩ = some (.int .i64 b) := (by first | exact (hb5.cell (p := ⟨w.heap.size, 1, none⟩) (show w.heap.size < wr.heap.size by omega)).trans y1 | exact (hb5.cell (p := ⟨w.heap.size, 1, none⟩) (by simp; omega)).trans x1); have z2 : w5.cell? ⟨w.heap.size, 2, none⟩ = some (.int .i64 c) := (by first | exact (hb5.cell (p := ⟨w.heap.size, 2, none⟩) (show w.heap.size < wr.heap.size by omega)).trans y2 | exact (hb5.cell (p := ⟨w.heap.size, 2, none⟩) (by simp; omega)).trans x2); have z3 : w5.cell? ⟨w.heap.size, 3, none⟩ = some (.int .i64 d) := (by first | exact (hb5.cell (p := ⟨w.heap.size, 3, none⟩) (show w.heap.size < wr.heap.size by omega)).trans y3 | exact (hb5.cell (p := ⟨w.heap.size, 3, none⟩) (by simp; omega)).trans x3); have zcj : w5.cell? ⟨g3, j, none⟩ = some (.string pp) := (by first | exact (hb5.cell (p := ⟨g3, j, none⟩) (show g3 < wr.heap.size by omega)).trans hcj | exact (hb5.cell (p := ⟨g3, j, none⟩) (by simp; omega)).trans xcj); try (have hbx := (hb5.block wr.heap.size (by simp)).trans (World.alloc_heap_new _ _); have k0 : w5.cell? ⟨wr.heap.size, 0, none⟩ = some (.string ⟨#[]⟩) := (by simp [World.cell?, hbx]); have k1 : w5.cell? ⟨wr.heap.size, 1, none⟩ = some (.int .i64 0) := (by simp [World.cell?, hbx]); have k2 : w5.cell? ⟨wr.heap.size, 2, none⟩ = some (.int .i64 0) := (by simp [World.cell?, hbx]); have kz : ∀ o, w5.frozen? ⟨wr.heap.size, o, none⟩ = false := (fun o => by simp [World.frozen?, hbx]))))
                            all_goals (go_wp2_with fail; go_meet)
                            all_goals first | exact ⟨w5.heap.size, t, at_, code, rfl, World.alloc_heap_new _ _, hU, hb5.size, ((Below.refl _ _).drew.trans hb5).alloc hb5.size _⟩ | exact ⟨wr.heap.size, t, at_, code, rfl, set3_new _ _ _ hbx, hU, Nat.le_refl _, set3_bel (((Below.refl _ _).drew.alloc (Nat.le_refl _) _).trans (hb5.mono (by simp))) (Nat.le_refl _) _ _ _⟩
                          case rest =>
                            obtain ⟨U, t, at_, code, rfl, hU, hun, hUl, hb5⟩ := hcut
                            have hw5 := hb5.size
                            obtain ⟨u0, u1, u2, uz⟩ := res3 hU
                            have hL5 := H3.out.2.2.2.2.2.2.1.below hb5
                            have HL5 : Hid (L2 w wc a b c d) := hL5
                            clear hL5 hU y0 y1 y2 y3 x0 x1 x2 x3 xcj hcj
                            rcases hun with ⟨h1, _⟩ | ⟨_, h1, _⟩ | ⟨_, _, Pn, f5, hres, hcs⟩
                            · omega
                            · rw [hright] at h1
                              cases h1
                            · obtain ⟨e1, e2, e3⟩ := res_fault hres
                              have hle := res_le hres
                              rcases hcs with ⟨hf0, rfl, rfl, rfl⟩ | ⟨hf0, rfl, rfl, rfl⟩
                              · have hr : r = (3, (y : Int) + (f : Int) + at_, 0, none) := by
                                  rw [HS2.out, HS3.out, H3.out.2.2.1]; simp only [elScan]
                                  rw [if_pos (by omega)]
                                  simp [elEnd, sgElem, sgEnd, rdQ]
                                  omega
                                subst hr
                                clear e2 hres e1
                                go_wp2_with fail
                                refine (l02Wrong_any ((y : Int) + (f : Int) + at_) _).mono ?_
                                rintro e w9 ⟨rfl, hb9⟩
                                have hL9 := HL5.out.below hb9
                                obtain ⟨c0, c1, c2, c3, c4, zz⟩ := hL9.out
                                have HB : Hid (Below w.heap.size w w9) := hL9.bel
                                clear hL9 hb9
                                dsimp only
                                repeat (first | exact bodyPost_ret (v := .agg #[.string ⟨#[]⟩, .slice none 0 0, .int .i64 0, .int .i64 ((y : Int) + (f : Int) + at_), .int .i64 3]) (by simp [results, Try.results39, go_sem, c0, c1, c2, c3, c4]) rfl ⟨_, _, rfl, ⟨rfl, rfl⟩, set5 HB.out _ _ _ _ _⟩ | go_step | go_upon | go_back)
                              · have hpl := e2 hf0
                                rw [hpl] at u0
                                have HF : Hid (faultF a b c d pp < 0) := by show faultF a b c d pp < 0; omega
                                clear hres e1 e2 hpl
                                go_wp2_with fail
                                refine (l02Part_any (plainS d pp) _).mono ?_
                                rintro e w6 ⟨rfl, rfl⟩
                                cases hPb : partB (plainS d pp)
                                · have hr : r = (3, (y : Int) + (f : Int), 0, none) := by
                                    rw [HS2.out, HS3.out, H3.out.2.2.1]; simp only [elScan]
                                    rw [if_neg (by have := HF.out; omega), if_neg (by rw [hPb]; simp)]
                                    simp [elEnd, sgElem, sgEnd, rdQ]
                                  subst hr
                                  go_wp2_with fail
                                  refine (l02Wrong_any ((y : Int) + (f : Int)) _).mono ?_
                                  rintro e w9 ⟨rfl, hb9⟩
                                  have hL9 := HL5.out.below hb9
                                  obtain ⟨c0, c1, c2, c3, c4, zz⟩ := hL9.out
                                  have HB : Hid (Below w.heap.size w w9) := hL9.bel
                                  clear hL9 hb9
                                  dsimp only
                                  repeat (first | exact bodyPost_ret (v := .agg #[.string ⟨#[]⟩, .slice none 0 0, .int .i64 0, .int .i64 ((y : Int) + (f : Int)), .int .i64 3]) (by simp [results, Try.results39, go_sem, c0, c1, c2, c3, c4]) rfl ⟨_, _, rfl, ⟨rfl, rfl⟩, set5 HB.out _ _ _ _ _⟩ | go_step | go_upon | go_back)
                                · have hmx : j + 1 ≤ maxLen := by unfold maxLen; omega
                                  have hps2 := partB_size hPb
                                  have hE5 : w6.heap[w3.heap.size]? = some (.cells #[v3] 59) := (hb5.block _ (by omega)).trans H3.out.2.2.2.1
                                  have hrow5 := row_keep H3.out.2.2.2.2.1 hb5
                                  have hb35 : Below w3.heap.size w3 w6 := H3.out.2.2.2.2.2.1.trans (hb5.mono (by omega))
                                  obtain ⟨A3, N3, C3, hv3⟩ := row_slice hrow5
                                  subst hv3
                                  have e0 : w6.cell? ⟨w3.heap.size, 0, none⟩ = some (.slice A3 N3 C3) := by simp [World.cell?, hE5]
                                  obtain ⟨hfa, hz, hsc3, _, _, _, _, htk3, hpp⟩ := H3.out
                                  have HK : Hid (elScan a b c d P 0 [] = elScan a b c d (P.drop (j + 1)) ((f : Int) + (pp.size : Int) + 1) ((P.take (j + 1)).map (plainS d)) ∧ (∀ x ∈ P.take (j + 1), faultF a b c d x < 0) ∧ (∀ x ∈ P.take (j + 1), (plainS d x).size ≤ 40) ∧ (P.take (j + 1)).map (plainS d) = (P.take j).map (plainS d) ++ [plainS d pp] ∧ P[j]? = some pp) := by
                                    refine ⟨?_, fun x hx => ?_, fun x hx => ?_, by rw [htk3]; simp, hpp⟩
                                    · rw [hsc3]
                                      simp only [elScan]
                                      rw [if_neg (by have := HF.out; omega), if_pos hPb, htk3]
                                      simp
                                    · rw [htk3] at hx
                                      rcases List.mem_append.1 hx with h | h
                                      · exact hfa x h
                                      · simp only [List.mem_cons, List.not_mem_nil, or_false] at h
                                        rw [h]
                                        exact HF.out
                                    · rw [htk3] at hx
                                      rcases List.mem_append.1 hx with h | h
                                      · exact hz x h
                                      · simp only [List.mem_cons, List.not_mem_nil, or_false] at h
                                        rw [h]
                                        exact hps2
                                  have HA5 : Hid (w6.heap[w3.heap.size]? = some (.cells #[.slice A3 N3 C3] 59) ∧ w6.ownsRow (w3.heap.size + 1) 9 1 (.slice A3 N3 C3) j (((P.take j).map (plainS d)).map Value.string) ∧ Below w3.heap.size w3 w6) := ⟨hE5, hrow5, hb35⟩
                                  obtain ⟨j0, hj0, hi0, hi1, hi2⟩ := info_parts info9
                                  have tok1 : True := trivial
                                  clear hE5 hrow5 hb35 hfa hz hsc3 htk3 hpp H3 HL5 u1 u2 hb5
                                  go_wp2_with (at_builtin; have _t := tok1; refine wpList_append_own _ rfl _ _ 57 rfl (w3.heap.size + 1) 9 j0 (.string ⟨#[]⟩) 1 16 Try.underlying57 hj0 hi0 hi1 hi2 rfl (by decide) _ _ _ rfl (HA5.out.2.1.alloc _) ⟨_, 0, none⟩ 1 1 [.string (plainS d pp)] rfl rfl (cell_one_at _ _ _ _ (by simp)) (by simp [Value.oneCell']) hmx (by omega) (by simp; omega) ?_; intro u' w7 hown' hgrow _; obtain ⟨A7, N7, C7, hu'⟩ := row_slice hown'; subst hu'; have HQ : Hid (StpE w3 w7 w3.heap.size (.slice A7 N7 C7) (j + 1) ((P.take (j + 1)).map (plainS d))) := (stpE HA5.out hgrow hown' HK.out.2.2.2.1); have z7 := HQ.out.z; have hw7 := HQ.out.sz; obtain ⟨uc, hcu⟩ := HQ.out.cell; have hc8 : (w7.setCell ⟨w3.heap.size, 0, none⟩ (.slice A7 N7 C7)).cell? ⟨g3, j, none⟩ = some (.string pp) := ((HQ.out.below.setCell (p := ⟨w3.heap.size, 0, none⟩) (Nat.le_refl _) _).cell (p := ⟨g3, j, none⟩) hgl3).trans (H2.out.1.2 j pp HK.out.2.2.2.2); clear tok1 hown' hgrow)
                                  go_roundw
                                  case rel =>
                                    obtain ⟨uu, hbx⟩ := HQ.out.box
                                    refine ⟨j + 1, f + pp.size + 1, .slice A7 N7 C7, by go_num, by go_num, by omega, by omega, HK.out.2.1, HK.out.2.2.1, by rw [HK.out.1]; congr 1, heap_setCell_same _ _ _ _ _ _ hbx, ?_, HQ.out.below.setCell (Nat.le_refl _) _⟩
                                    exact HQ.out.own.kept (grownBy_setCell' w7 w3.heap.size _) (.inr (row_lt HQ.out.own (Nat.lt_succ_self _)).symm)
                                  case measure => simp [intOf]; omega
                        · obtain rfl : j = P.length := by omega
                          rw [List.take_length] at hfa hz hsc3 hrow3
                          rw [List.drop_length] at hsc3
                          have hends := ends_plain hfa
                          have hRow := own_rowS hrow3 (by simp) (by simp; omega) (fun x hx => by
                            obtain ⟨z, hz1, rfl⟩ := List.mem_map.1 hx
                            exact hz z hz1)
                          have helS : elScan a b c d P 0 [] = .inr (P.map (plainS d)) := hsc3.trans (by simp [elScan])
                          obtain ⟨lp, hlp⟩ : ∃ x, P[P.length - 1]? = some x := ⟨_, List.getElem?_eq_getElem (by omega)⟩
                          have hcl := hP4.2 _ lp hlp
                          have hEP : endsE P = (decide (1 < P.length) && isE lp) := by unfold endsE; rw [hlp]; rfl
                          obtain ⟨A3, N3, C3, hv3⟩ := row_slice hrow3
                          have e0 : wr.cell? ⟨w3.heap.size, 0, none⟩ = some v3 := by simp [World.cell?, hE3]
                          have hki : ((P.length : Int) - 1) = ((P.length - 1 : Nat) : Int) := by omega
                          have hlw := hL4.lt
                          have HX : Hid (RowS wr v3 (P.map (plainS d)) ∧ endsE P = (decide (1 < P.length) && isE lp) ∧ endsE (P.map (plainS d)) = endsE P ∧ elScan a b c d P 0 [] = .inr (P.map (plainS d)) ∧ wr.ownsRow (w3.heap.size + 1) 9 1 v3 P.length ((P.map (plainS d)).map Value.string) ∧ Below w3.heap.size w3 wr ∧ L2 w wr a b c d ∧ (∀ x ∈ P, faultF a b c d x < 0) ∧ (∀ x ∈ P, (plainS d x).size ≤ 40) ∧ wr.heap[w3.heap.size]? = some (.cells #[v3] 59)) := ⟨hRow, hEP, hends, helS, hrow3, hb4, hL4, hfa, hz, hE3⟩
                          subst hv3
                          clear hRow hEP hends helS hrow3 hb4 hL4 hP4 hfa hz hE3 hsc3 hlp
                          go_upto_region 36 with fail
                          go_cut [159] from 71 to 175 (fun bb wx => bb = .bool (endsE P || (decide (k + 2 = L.length) && blank1 (P.map (plainS d)))) ∧ Below wr.heap.size wr wx)
                          case first =>
                            by_cases h1 : 1 < P.length
                            · have h1' : (1 : Int) < (P.length : Int) := by omega
                              have h1b : decide ((1 : Int) < (P.length : Int)) = true := by simp; omega
                              cases hlpE : isE lp
                              · have hlpE' : lp.toList.isEmpty = false := hlpE
                                by_cases hk2 : k + 2 = L.length
                                · have dk : ((k : Int) + 1 == (L.length : Int) - 1) = true := by rw [beq_iff_eq]; omega
                                  go_wp2_with fail
                                  refine (l02Empty_any _ _ _ HX.out.1 (by simp; omega)).mono ?_
                                  rintro e w6 ⟨rfl, hb6⟩
                                  go_wp2_with fail
                                  go_meet
                                  exact ⟨by rw [HX.out.2.1]; simp [h1, hlpE, hk2], hb6⟩
                                · have dk : ((k : Int) + 1 == (L.length : Int) - 1) = false := by rw [beq_eq_false_iff_ne]; omega
                                  go_wp2_with fail
                                  go_meet
                                  exact ⟨by rw [HX.out.2.1]; simp [h1, hlpE, hk2], Below.refl _ _⟩
                              · have hlpE' : lp.toList.isEmpty = true := hlpE
                                go_wp2_with fail
                                go_meet
                                exact ⟨by rw [HX.out.2.1]; simp [h1, hlpE], Below.refl _ _⟩
                            · have h1' : (P.length : Int) ≤ 1 := by omega
                              have h1b : decide ((1 : Int) < (P.length : Int)) = false := by simp; omega
                              by_cases hk2 : k + 2 = L.length
                              · have dk : ((k : Int) + 1 == (L.length : Int) - 1) = true := by rw [beq_iff_eq]; omega
                                go_wp2_with fail
                                refine (l02Empty_any _ _ _ HX.out.1 (by simp; omega)).mono ?_
                                rintro e w6 ⟨rfl, hb6⟩
                                go_wp2_with fail
                                go_meet
                                exact ⟨by rw [HX.out.2.1]; simp [h1, hk2], hb6⟩
                              · have dk : ((k : Int) + 1 == (L.length : Int) - 1) = false := by rw [beq_eq_false_iff_ne]; omega
                                go_wp2_with fail
                                go_meet
                                exact ⟨by rw [HX.out.2.1]; simp [h1, hk2], Below.refl _ _⟩
                          case rest =>
                            obtain ⟨rfl, hb6⟩ := hcut
                            have hw6 := hb6.size
                            have hL6 := HX.out.2.2.2.2.2.2.1.below hb6
                            have HL6 : Hid (L2 w wc a b c d) := hL6
                            clear hL6 e0 hcl
                            cases hbad : (endsE P || (decide (k + 2 = L.length) && blank1 (P.map (plainS d))))
                            · have hnb : endsE P = false ∧ (k + 2 = L.length → blank1 (P.map (plainS d)) = false) := by
                                simp only [Bool.or_eq_false_iff, Bool.and_eq_false_iff, decide_eq_false_iff_not] at hbad
                                exact ⟨hbad.1, fun h => hbad.2.resolve_left (fun h2 => h2 h)⟩
                              have hS4 : sgScan a b c d (L.drop 1) 0 (tag.size + 1) [] = sgScan a b c d (L.drop (k + 1 + 1)) (k + 1) ((y : Int) + (p.size : Int) + 1) (acc ++ [(P.map (plainS d))]) := by
                                rw [HS3.out, HX.out.2.2.2.1]
                                simp only [elEnd]
                                rw [HX.out.2.2.1, hnb.1]
                                rfl
                              have hbo : Below wo.heap.size wo wc := (H2.out.2.2.1.trans (HX.out.2.2.2.2.2.1.mono (by omega))).trans (hb6.mono (by omega))
                              have hu6 : wc.ownsRow wo.heap.size 9 1 (.slice A3 N3 C3) (P.map (plainS d)).length ((P.map (plainS d)).map Value.string) := by
                                have := row_mono (row_keep HX.out.2.2.2.2.1 hb6) (show wo.heap.size ≤ w3.heap.size + 1 by omega)
                                simpa using this
                              have hG6 : wc.heap[w2.heap.size]? = some (.cells #[.string tag, v] 27) := (hbo.block _ (by omega)).trans H1.out.2.2.2.1
                              have hb26 : Below w2.heap.size w2 wc := H1.out.2.2.2.2.2.1.trans (hbo.mono (by omega))
                              have hO := H1.out.2.2.2.2.1
                              have hO6 := hO.below hbo
                              obtain ⟨A, N, C, hv⟩ := row_slice hO.row
                              subst hv
                              have g1 : wc.cell? ⟨w2.heap.size, 1, none⟩ = some (.slice A N C) := by simp [World.cell?, hG6]
                              have hE6 := (hb6.block w3.heap.size (by omega)).trans HX.out.2.2.2.2.2.2.2.2.2
                              have e6 : wc.cell? ⟨w3.heap.size, 0, none⟩ = some (.slice A3 N3 C3) := by simp [World.cell?, hE6]
                              obtain ⟨j0, hj0, hi0, hi1, hi2⟩ := info_parts infoElm
                              have hmx : acc.length + 1 ≤ maxLen := by unfold maxLen; omega
                              have HP6 : Hid (OwnV (w2.heap.size + 1) wo (.slice A N C) vals acc ∧ Below wo.heap.size wo wc ∧ wc.ownsRow wo.heap.size 9 1 (.slice A3 N3 C3) (P.map (plainS d)).length ((P.map (plainS d)).map Value.string) ∧ wc.heap[w2.heap.size]? = some (.cells #[.string tag, .slice A N C] 27) ∧ Below w2.heap.size w2 wc ∧ OwnV (w2.heap.size + 1) wc (.slice A N C) vals acc) := ⟨hO, hbo, hu6, hG6, hb26, hO6⟩
                              have HN : Hid (sgScan a b c d (L.drop 1) 0 (tag.size + 1) [] = sgScan a b c d (L.drop (k + 1 + 1)) (k + 1) ((y : Int) + (p.size : Int) + 1) (acc ++ [(P.map (plainS d))]) ∧ BdX (acc ++ [(P.map (plainS d))]) ∧ (k + 1 + 1 = L.length → blankB (acc ++ [(P.map (plainS d))]) = false)) := by
                                refine ⟨hS4, fun e he => ?_, fun h => ?_⟩
                                · rcases List.mem_append.1 he with h | h
                                  · exact H1.out.2.2.2.2.2.2 e h
                                  · simp only [List.mem_cons, List.not_mem_nil, or_false] at h
                                    rw [h]
                                    refine ⟨by simp; omega, fun x hx => ?_⟩
                                    obtain ⟨z, hz1, rfl⟩ := List.mem_map.1 hx
                                    exact HX.out.2.2.2.2.2.2.2.2.1 z hz1
                                · have := hnb.2 h
                                  unfold blankB
                                  simp [this]
                              have tok1 : True := trivial
                              clear hS4 hbo hu6 hG6 hb26 hO hO6 hE6 hnb hbad hb6
                              go_wp2_with (at_builtin; have _t := tok1; refine wpList_append_own _ rfl _ _ 25 rfl (w2.heap.size + 1) 59 j0 (.agg #[.slice none 0 0]) 1 24 Try.underlying25 hj0 hi0 hi1 hi2 rfl (by decide) _ _ _ rfl (HP6.out.2.2.2.2.2.row.alloc _) ⟨_, 0, none⟩ 1 1 [.slice A3 N3 C3] rfl rfl (cell_one_at _ _ _ _ (by simp)) (by simp [Value.oneCell']) hmx (by omega) (by simp; omega) ?_; intro u' w7 hown' hgrow _; obtain ⟨A7, N7, C7, hu'⟩ := row_slice hown'; subst hu'; have HQ : Hid (Stp w2 w7 w2.heap.size tag (.slice A7 N7 C7) (vals ++ [.slice A3 N3 C3]) (acc ++ [(P.map (plainS d))])) := (stp2 HP6.out (by simp; omega) (by omega) hgrow hown'); have z7 := HQ.out.z; have hw7 := HQ.out.sz; obtain ⟨uc, hcu⟩ := HQ.out.cell; have hc8 : (w7.setCell ⟨w2.heap.size, 1, none⟩ (.slice A7 N7 C7)).cell? ⟨g, k + 1, none⟩ = some (.string p) := ((HQ.out.below.setCell (p := ⟨w2.heap.size, 1, none⟩) (Nat.le_refl _) _).cell (p := ⟨g, k + 1, none⟩) hglt).trans ((H1.out.2.2.2.2.2.1.cell (p := ⟨g, k + 1, none⟩) hglt).symm.trans hck); clear tok1 hown' hgrow)
                              go_roundw
                              case rel =>
                                obtain ⟨uu, hbx⟩ := HQ.out.box
                                exact ⟨k + 1, y + p.size + 1, acc ++ [(P.map (plainS d))], .slice A7 N7 C7, vals ++ [.slice A3 N3 C3], by go_num, by go_num, by omega, by simp; omega, by omega, by omega, HN.out.2.1, by rw [HN.out.1]; congr 1, HN.out.2.2, heap_setCell_same _ _ _ _ _ _ hbx, HQ.out.own.set (by omega) _ _, HQ.out.below.setCell (Nat.le_refl _) _⟩
                              case measure => simp [intOf]; omega
                            · have hr : r = (3, (y : Int), 0, none) := by
                                rw [HS2.out, HS3.out, HX.out.2.2.2.1]
                                simp only [Bool.or_eq_true, Bool.and_eq_true, decide_eq_true_eq] at hbad
                                rcases hbad with hb | ⟨hb1, hb2⟩
                                · simp only [elEnd]
                                  rw [HX.out.2.2.1, hb]
                                  simp [sgElem, sgEnd, rdQ]
                                · by_cases hb : endsE P = true
                                  · simp only [elEnd]
                                    rw [HX.out.2.2.1, hb]
                                    simp [sgElem, sgEnd, rdQ]
                                  · have hp0 := H2.out.2.2.2.2.2 HX.out.2.2.2.2.2.2.2.1 hb2
                                    have hd0 : L.drop (k + 1 + 1) = [] := List.drop_eq_nil_of_le (by omega)
                                    rw [hd0] at hyk ⊢
                                    have hym2 : y = m := by simp [sumP] at hyk; omega
                                    simp only [elEnd]
                                    rw [HX.out.2.2.1, if_neg hb]
                                    simp only [sgElem, sgScan, sgEnd]
                                    rw [if_pos (by unfold blankB; simp [hb2]), hym2]
                                    rfl
                              subst hr
                              go_wp2_with fail
                              refine (l02Wrong_any ((y : Int)) _).mono ?_
                              rintro e w9 ⟨rfl, hb9⟩
                              have hL9 := HL6.out.below hb9
                              obtain ⟨c0, c1, c2, c3, c4, zz⟩ := hL9.out
                              have HB : Hid (Below w.heap.size w w9) := hL9.bel
                              clear hL9 hb9
                              dsimp only
                              repeat (first | exact bodyPost_ret (v := .agg #[.string ⟨#[]⟩, .slice none 0 0, .int .i64 0, .int .i64 ((y : Int)), .int .i64 3]) (by simp [results, Try.results39, go_sem, c0, c1, c2, c3, c4]) rfl ⟨_, _, rfl, ⟨rfl, rfl⟩, set5 HB.out _ _ _ _ _⟩ | go_step | go_upon | go_back)
              · have hkl : k + 1 = L.length := by omega
                rw [show L.drop (k + 1) = [] from List.drop_eq_nil_of_le (by omega)] at hsc
                have hb0 := hbl hkl
                have hr : r = (0, 0, (m : Int) + 1, some (tag, acc)) := by
                  rw [HS2.out, hsc]
                  simp only [sgScan, sgEnd]
                  rw [hb0]
                  rfl
                subst hr
                have hge : (L.length : Int) ≤ (k : Int) + 1 := by omega
                obtain ⟨A, N, C, hv⟩ := row_slice hO.row
                subst hv
                have g0 : wr.cell? ⟨w2.heap.size, 0, none⟩ = some (.string tag) := by simp [World.cell?, hG]
                have g1 : wr.cell? ⟨w2.heap.size, 1, none⟩ = some (.slice A N C) := by simp [World.cell?, hG]
                have hLr := HP.out.2.1.below hb
                obtain ⟨c0, c1, c2, c3, c4, zz⟩ := hLr.out
                have HF : Hid (OwnV (w2.heap.size + 1) wr (.slice A N C) vals acc ∧ Below w.heap.size w wr) := ⟨hO, hLr.bel⟩
                clear hLr hO hG hsc hb hX hbl HGn HS2 HP hb0
                repeat (first | exact bodyPost_ret (v := .agg #[.string tag, .slice A N C, .int .i64 ((m : Int) + 1), .int .i64 0, .int .i64 0]) (by simp [results, Try.results39, go_sem, c0, c1, c2, c3, c4]) rfl ⟨_, _, rfl, ⟨rfl, vals, (((((HF.out.1.set (by omega) _ _).set (by omega) _ _).set (by omega) _ _).set (by omega) _ _).set (by omega) _ _).mono (by omega)⟩, set5 HF.out.2 _ _ _ _ _⟩ | go_step | go_upon | go_back | go_skip)
end Go.Proofs.Ytbhionebejnbgaa
