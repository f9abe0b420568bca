/- Contract of the scribe's read. -/
import Derived.Test.YtcdmnodhkgiaaaaDoorErK
import Derived.Test.YtcdmnodhkgiaaaaDoorSplB
import Derived.Test.YtcdmnodhkgiaaaaDoorEvI
import Derived.BigQuiet
import Derived.Deep.RegionHeld3
namespace Go.Proofs.YtcdmnodhkgiaaaaDoor
open Go.ChangeShapes Go.WideShapes Go.ChangeAt Go.RowKit
/-- The world of a scribe: B holds it, M its kinds. -/
structure Scr (B M : Nat) (w : World) : Prop where
  dg : Dgt true 80 21 (scR M) B w
  mp : w.ownsMap Tryd.prog 9 rdV M 4 (kindsD B)
  lt : B < w.heap.size
  ne : M ≠ B
theorem omap_lt {w : World} {k : TypeId} {R : Value → Option (DataW Value × List MemPlace)} {M n : Nat} {D : DataW Value} (h : w.ownsMap Tryd.prog k R M n D) : M < w.heap.size := by
  obtain ⟨es, c, hb, _⟩ := h
  exact (Array.getElem?_eq_some_iff.1 hb).1
theorem Scr.grown {B M : Nat} {w w' : World} (h : Scr B M w) (hd : Dgt true 80 21 (scR M) B w') (hg : w.grownBy w' (some B)) : Scr B M w' := by
  refine ⟨hd, ?_, Nat.lt_of_lt_of_le h.lt hg.size, h.ne⟩
  obtain ⟨es, c, hb, r⟩ := h.mp
  exact ⟨es, c, (hg.block M (Array.getElem?_eq_some_iff.1 hb).1 (by simp [h.ne])).trans hb, r⟩
theorem Scr.below {B M : Nat} {w w' : World} (h : Scr B M w) (hb : Below w.heap.size w w') : Scr B M w' := h.grown (h.dg.below hb) (belG hb _)
theorem dg_cell {B M : Nat} {w : World} (h : Dgt true 80 21 (scR M) B w) : w.cell? ⟨B, 20, none⟩ = some (.map (some M)) := by
  rcases h with h | ⟨m, _, h, _⟩
  · exact h.cell (i := 20) (by omega)
  · exact h.cell (i := 20) (by omega)
set_option maxRecDepth 100000 in
set_option maxHeartbeats 4000000 in
theorem read_known (B M : Nat) (t s : ByteArray) (r : List ByteArray) (F : Nat) (rd : List ByteArray → EvR) (R : Reader F rd) (ht : t.size ≤ 20000) (w : World) (h : Scr B M w) (hws : pcB 32 t = s :: r) (hk : kndF s = some F) :
    Calls Tryd.prog 28 #[.pointer (some ⟨B, 0, none⟩), .string t] w fun e w' => e = .returned (.tuple #[vE (rd r), .bool (evB (rd r))]) ∧ Scr B M w' ∧ w.grownBy w' (some B) := by
  have hlen := pcB_len 32 t
  have hpsz : ∀ x ∈ s :: r, x.size ≤ 20000 := fun x hx => Nat.le_trans (pcB_size (by rw [hws]; exact hx)) ht
  rw [hws] at hlen
  simp only [List.length_cons] at hlen
  obtain ⟨W0, hW0⟩ : ∃ W0, w.alloc (.cells #[.int .i64 0, .string ⟨#[]⟩, .string ⟨#[]⟩, .string ⟨#[]⟩] 39) = W0 := ⟨_, rfl⟩
  have hb0 : Below w.heap.size w W0 := by rw [← hW0]; exact (Below.refl _ _).alloc (Nat.le_refl _) _
  have hx0 : W0.heap[w.heap.size]? = some (.cells #[.int .i64 0, .string ⟨#[]⟩, .string ⟨#[]⟩, .string ⟨#[]⟩] 39) := by rw [← hW0]; exact World.alloc_heap_new _ _
  have hs0 : W0.heap.size = w.heap.size + 1 := by rw [← hW0]; simp
  have Q := split_any t 32 W0 (by omega)
  rw [hws] at Q
  obtain ⟨W1, hW1⟩ : ∃ W1, W1 = W0.alloc (.cells ((s :: r).map Value.string).toArray 9) := ⟨_, rfl⟩
  rw [← hW1] at Q
  have hb1 : Below W0.heap.size W0 W1 := by rw [hW1]; exact (Below.refl _ _).alloc (Nat.le_refl _) _
  have hc1 : ∀ (j : Nat) (x : ByteArray), (s :: r)[j]? = some x → W1.cell? ⟨W0.heap.size, j, none⟩ = some (.string x) := fun j x hj => by
    have e : (((s :: r).map Value.string).toArray)[j]? = some (.string x) := by rw [List.getElem?_toArray, List.getElem?_map, hj]; rfl
    rw [hW1]
    simp only [World.cell?, World.alloc_heap_new]
    exact e
  have hs1 : W1.heap.size = W0.heap.size + 1 := by rw [hW1]; simp
  have S1 : Scr B M W1 := (h.below hb0).below hb1
  have G1 : w.grownBy W1 (some B) := belG (hb0.trans (hb1.mono hb0.size)) _
  have k20 := dg_cell S1.dg
  have k0 := hc1 0 s rfl
  have hlk : ∀ n, (Instr.lookup 78 (.map (some M)) (.string s) true).run Tryd.prog (W1.drewN n) = .ok (.tuple #[.func (.func F) #[.pointer (some ⟨B, 0, none⟩)] #[], .bool true]) (W1.drewN n) := fun n => by
    have := lookK (S1.below (below_drewN (Below.refl _ _) n)).mp (s := s) (by have := hpsz s (by simp); omega)
    rw [hk] at this
    exact this
  have hlk0 : (Instr.lookup 78 (.map (some M)) (.string s) true).run Tryd.prog W1 = .ok (.tuple #[.func (.func F) #[.pointer (some ⟨B, 0, none⟩)] #[], .bool true]) W1 := hlk 0
  have Hx1 : Hid (W1.heap[w.heap.size]? = some (.cells #[.int .i64 0, .string ⟨#[]⟩, .string ⟨#[]⟩, .string ⟨#[]⟩] 39)) := (hb1.block _ (by omega)).trans hx0
  have H1 : Hid (Scr B M W1 ∧ w.grownBy W1 (some B) ∧ W0.heap.size = w.heap.size + 1 ∧ W1.heap.size = W0.heap.size + 1) := ⟨S1, G1, hs0, hs1⟩
  have HC : Hid ((∀ (j : Nat) (x : ByteArray), (s :: r)[j]? = some x → W1.cell? ⟨W0.heap.size, j, none⟩ = some (.string x)) ∧ ∀ x ∈ s :: r, x.size ≤ 20000) := ⟨hc1, hpsz⟩
  have h0 : Hid (Scr B M w) := h
  clear hws hW1 S1 G1 hx0 hc1 hpsz h hb0 hb1 hs0 hs1
  go_enter Tryd.func28, Tryd.ntmps28
  go_upto_region 1 with fail
  try rw [hW0]
  clear hW0
  go_wp2_with fail
  refine Q.mono ?_
  rintro e w2 ⟨rfl, rfl⟩
  clear Q
  go_wp2_with fail
  go_quiet (fail)
  clear hlk hlk0 k20 k0
  obtain ⟨W2, hW2⟩ : ∃ W2, w2.drewN nq = W2 := ⟨_, rfl⟩
  have hbd : Below w2.heap.size w2 W2 := by rw [← hW2]; exact below_drewN (Below.refl _ _) nq
  have H2 : Hid (Scr B M W2 ∧ w.grownBy W2 (some B) ∧ W0.heap.size = w.heap.size + 1 ∧ W0.heap.size + 1 ≤ W2.heap.size) := ⟨H1.out.1.below hbd, gby_trans H1.out.2.1 (belG hbd _), H1.out.2.2.1, by have := hbd.size; have := H1.out.2.2.2; omega⟩
  have HC2 : Hid (∀ (j : Nat) (x : ByteArray), (s :: r)[j]? = some x → W2.cell? ⟨W0.heap.size, j, none⟩ = some (.string x)) := fun j x hj => (hbd.cell (World.block_lt_of_cell? _ _ (HC.out.1 j x hj))).trans (HC.out.1 j x hj)
  have Hx2 : Hid (W2.heap[w.heap.size]? = some (.cells #[.int .i64 0, .string ⟨#[]⟩, .string ⟨#[]⟩, .string ⟨#[]⟩] 39)) := (hbd.block _ (Array.getElem?_eq_some_iff.1 Hx1.out).1).trans Hx1.out
  rw [hW2]
  clear hW2 hbd H1 Hx1
  have ent := R.ent
  obtain ⟨ev, hev⟩ : ∃ ev, ev = rd r := ⟨_, rfl⟩
  have HEV : Hid (ev = rd r) := hev
  have Q1 := R.call B W0.heap.size 1 r.length M r W2 (by omega) (fun j x hj => by rw [Nat.add_comm]; exact HC2.out (j + 1) x hj) (fun x hx => HC.out.2 x (List.mem_cons_of_mem _ hx)) H2.out.1.dg H2.out.1.lt (fun e => by have := H2.out.2.2.1; have := h0.out.lt; omega)
  have Q0 : r = [] → Calls Tryd.prog F #[.pointer (some ⟨B, 0, none⟩), .slice (some ⟨W0.heap.size, 0, none⟩) 0 0] W2 fun e w' => e = .returned (vE (rd r)) ∧ Dgt true 80 21 (scR M) B w' ∧ W2.grownBy w' (some B) := fun e => by
    have := R.call B W0.heap.size 0 0 M [] W2 (by simp) (fun j x hj => by simp at hj) (fun x hx => by cases hx) H2.out.1.dg H2.out.1.lt (fun e => by have := H2.out.2.2.1; have := h0.out.lt; omega)
    rw [e]
    exact this
  rw [← hev] at Q1 Q0
  clear hev HC HC2
  go_wp2_with fail
  all_goals
    (first | refine (Q0 (by assumption)).mono ?_ | refine Q1.mono ?_)
    rintro e w3 ⟨rfl, hd3, hg3⟩
    obtain ⟨k, a, b, c⟩ := ev
    simp only [vE, evV]
    have H3 : Hid (Scr B M w3 ∧ w.grownBy w3 (some B)) := ⟨H2.out.1.grown hd3 hg3, gby_trans H2.out.2.1 hg3⟩
    have Hx3 : Hid (w3.heap[w.heap.size]? = some (.cells #[.int .i64 0, .string ⟨#[]⟩, .string ⟨#[]⟩, .string ⟨#[]⟩] 39)) := (hg3.block _ (Array.getElem?_eq_some_iff.1 Hx2.out).1 (by have := h0.out.lt; simp; omega)).trans Hx2.out
    clear Q0 Q1 hd3 hg3
    obtain ⟨W4, hW4⟩ : ∃ W4, w3.alloc (.cells #[.int .i64 k, .string a, .string b, .string c] 39) = W4 := ⟨_, rfl⟩
    have hb4 : Below w3.heap.size w3 W4 := by rw [← hW4]; exact (Below.refl _ _).alloc (Nat.le_refl _) _
    have y4 : W4.heap[w3.heap.size]? = some (.cells #[.int .i64 k, .string a, .string b, .string c] 39) := by rw [← hW4]; exact World.alloc_heap_new _ _
    have hlt3 := (Array.getElem?_eq_some_iff.1 Hx3.out).1
    have Hx4 : Hid (W4.heap[w.heap.size]? = some (.cells #[.int .i64 0, .string ⟨#[]⟩, .string ⟨#[]⟩, .string ⟨#[]⟩] 39)) := (hb4.block _ hlt3).trans Hx3.out
    have H4 : Hid (Scr B M W4 ∧ w.grownBy W4 (some B)) := ⟨H3.out.1.below hb4, gby_trans H3.out.2 (belG hb4 _)⟩
    obtain ⟨E, hE⟩ : ∃ E, w3.heap.size = E := ⟨_, rfl⟩
    rw [hE] at y4 hlt3
    have hne : E ≠ w.heap.size := by omega
    have HR : Hid (∀ W, Below W4.heap.size W4 W → (∀ o, W.frozen? ⟨w.heap.size, o, none⟩ = false) ∧ (W.cell? ⟨w.heap.size, 0, none⟩ = some (.int .i64 0) ∧ W.cell? ⟨w.heap.size, 1, none⟩ = some (.string ⟨#[]⟩) ∧ W.cell? ⟨w.heap.size, 2, none⟩ = some (.string ⟨#[]⟩) ∧ W.cell? ⟨w.heap.size, 3, none⟩ = some (.string ⟨#[]⟩)) ∧ (W.cell? ⟨E, 0, none⟩ = some (.int .i64 k) ∧ W.cell? ⟨E, 1, none⟩ = some (.string a) ∧ W.cell? ⟨E, 2, none⟩ = some (.string b) ∧ W.cell? ⟨E, 3, none⟩ = some (.string c))) := fun W hW => by
      have hx1 := (hW.block _ (Array.getElem?_eq_some_iff.1 Hx4.out).1).trans Hx4.out
      have hy1 := (hW.block _ (Array.getElem?_eq_some_iff.1 y4).1).trans y4
      exact ⟨fun o => by simp [World.frozen?, hx1], bx4e hx1, bx4e hy1⟩
    obtain ⟨_, _, q0, q1, q2, q3⟩ := HR.out W4 (Below.refl _ _)
    have QR := eventRight_impl ⟨k, a, b, c⟩
    obtain ⟨y, hy⟩ : ∃ y, y = evB ⟨k, a, b, c⟩ := ⟨_, rfl⟩
    have HY : Hid (y = evB ⟨k, a, b, c⟩) := hy
    rw [← hy] at QR
    clear hy hb4 hlt3 y4 H3 Hx3
    go_wp2_with fail
    clear hW4 hE
    go_region_held3 (fun W => W.cell? ⟨E, 0, none⟩ = some (.int .i64 k) ∧ W.cell? ⟨E, 1, none⟩ = some (.string a) ∧ W.cell? ⟨E, 2, none⟩ = some (.string b) ∧ W.cell? ⟨E, 3, none⟩ = some (.string c)) (first | go_keep | exact ⟨keep4 g0 hne, keep4 g1 hne, keep4 g2 hne, keep4 g3 hne⟩) (first | (go_at_call 34; refine (QR _).mono ?_; rintro e wc ⟨rfl, hbc⟩; have bc : Below W4.heap.size W4 wc := (by first | exact hbc | exact undrewR hbc); obtain ⟨f1, ⟨d0, d1, d2, d3⟩, g0, g1, g2, g3⟩ := HR.out wc bc; clear hbc; try dsimp only))
    rename_i hHeld
    clear hHeld QR
    have H5 : Hid (Scr B M wc ∧ w.grownBy wc (some B)) := ⟨H4.out.1.below bc, gby_trans H4.out.2 (belG bc _)⟩
    have HX : Hid (wc.heap[w.heap.size]? = some (.cells #[.int .i64 0, .string ⟨#[]⟩, .string ⟨#[]⟩, .string ⟨#[]⟩] 39)) := (bc.block _ (Array.getElem?_eq_some_iff.1 Hx4.out).1).trans Hx4.out
    clear bc HR q0 q1 q2 q3
    go_wp2
    have h4 := set4_new (.int .i64 k) (.string a) (.string b) (.string c) HX.out
    have hB4 := set4_dg H5.out.1.dg H5.out.2 HX.out h0.out.lt (.int .i64 k) (.string a) (.string b) (.string c)
    revert h4 hB4
    generalize (((wc.setCell ⟨w.heap.size, 0, none⟩ (.int .i64 k)).setCell ⟨w.heap.size, 1, none⟩ (.string a)).setCell ⟨w.heap.size, 2, none⟩ (.string b)).setCell ⟨w.heap.size, 3, none⟩ (.string c) = W5
    intro h4 hB4
    have e0 : W5.cell? ⟨w.heap.size, 0, none⟩ = some (.int .i64 k) := by simp [World.cell?, h4]
    have e1 : W5.cell? ⟨w.heap.size, 1, none⟩ = some (.string a) := by simp [World.cell?, h4]
    have e2 : W5.cell? ⟨w.heap.size, 2, none⟩ = some (.string b) := by simp [World.cell?, h4]
    have e3 : W5.cell? ⟨w.heap.size, 3, none⟩ = some (.string c) := by simp [World.cell?, h4]
    refine bodyPost_ret (v := .tuple #[evV k a b c, .bool y]) (by simp [results, Tryd.results28, go_sem, evV, e0, e1, e2, e3]; try rfl) rfl ?_
    exact ⟨by rw [HY.out, ← HEV.out]; rfl, h0.out.grown hB4.1 hB4.2, hB4.2⟩
set_option maxRecDepth 100000 in
set_option maxHeartbeats 4000000 in
theorem read_unknown (B M : Nat) (t s : ByteArray) (r : List ByteArray) (ht : t.size ≤ 20000) (w : World) (h : Scr B M w) (hws : pcB 32 t = s :: r) (hk : kndF s = none) :
    Calls Tryd.prog 28 #[.pointer (some ⟨B, 0, none⟩), .string t] w fun e w' => e = .returned (.tuple #[vE zeE, .bool false]) ∧ Scr B M w' ∧ w.grownBy w' (some B) := by
  have hlen := pcB_len 32 t
  have hpsz : s.size ≤ 20000 := Nat.le_trans (pcB_size (c := 32) (by rw [hws]; simp)) ht
  rw [hws] at hlen
  simp only [List.length_cons] at hlen
  obtain ⟨W0, hW0⟩ : ∃ W0, w.alloc (.cells #[.int .i64 0, .string ⟨#[]⟩, .string ⟨#[]⟩, .string ⟨#[]⟩] 39) = W0 := ⟨_, rfl⟩
  have hb0 : Below w.heap.size w W0 := by rw [← hW0]; exact (Below.refl _ _).alloc (Nat.le_refl _) _
  have hx0 : W0.heap[w.heap.size]? = some (.cells #[.int .i64 0, .string ⟨#[]⟩, .string ⟨#[]⟩, .string ⟨#[]⟩] 39) := by rw [← hW0]; exact World.alloc_heap_new _ _
  have hs0 : W0.heap.size = w.heap.size + 1 := by rw [← hW0]; simp
  have Q := split_any t 32 W0 (by omega)
  rw [hws] at Q
  obtain ⟨W1, hW1⟩ : ∃ W1, W1 = W0.alloc (.cells ((s :: r).map Value.string).toArray 9) := ⟨_, rfl⟩
  rw [← hW1] at Q
  have hb1 : Below W0.heap.size W0 W1 := by rw [hW1]; exact (Below.refl _ _).alloc (Nat.le_refl _) _
  have k0 : W1.cell? ⟨W0.heap.size, 0, none⟩ = some (.string s) := by
    rw [hW1]
    simp only [World.cell?, World.alloc_heap_new]
    rfl
  have S1 : Scr B M W1 := (h.below hb0).below hb1
  have k20 := dg_cell S1.dg
  have hlk : ∀ n, (Instr.lookup 78 (.map (some M)) (.string s) true).run Tryd.prog (W1.drewN n) = .ok (.tuple #[.nilFunc, .bool false]) (W1.drewN n) := fun n => by
    have := lookK (S1.below (below_drewN (Below.refl _ _) n)).mp (s := s) (by omega)
    rw [hk] at this
    exact this
  have hlk0 : (Instr.lookup 78 (.map (some M)) (.string s) true).run Tryd.prog W1 = .ok (.tuple #[.nilFunc, .bool false]) W1 := hlk 0
  have Hx1 : Hid (W1.heap[w.heap.size]? = some (.cells #[.int .i64 0, .string ⟨#[]⟩, .string ⟨#[]⟩, .string ⟨#[]⟩] 39)) := (hb1.block _ (by omega)).trans hx0
  have H1 : Hid (Scr B M W1 ∧ w.grownBy W1 (some B)) := ⟨S1, belG (hb0.trans (hb1.mono hb0.size)) _⟩
  have h0 : Hid (Scr B M w) := h
  clear hws hW1 S1 hx0 hpsz h hb0 hb1 hs0
  go_enter Tryd.func28, Tryd.ntmps28
  go_upto_region 1 with fail
  try rw [hW0]
  clear hW0
  go_wp2_with fail
  refine Q.mono ?_
  rintro e w2 ⟨rfl, rfl⟩
  clear Q
  go_wp2_with fail
  go_quiet (fail)
  clear hlk hlk0 k20 k0
  obtain ⟨W2, hW2⟩ : ∃ W2, w2.drewN nq = W2 := ⟨_, rfl⟩
  have hbd : Below w2.heap.size w2 W2 := by rw [← hW2]; exact below_drewN (Below.refl _ _) nq
  have H5 : Hid (Scr B M W2 ∧ w.grownBy W2 (some B)) := ⟨H1.out.1.below hbd, gby_trans H1.out.2 (belG hbd _)⟩
  have HX : Hid (W2.heap[w.heap.size]? = some (.cells #[.int .i64 0, .string ⟨#[]⟩, .string ⟨#[]⟩, .string ⟨#[]⟩] 39)) := (hbd.block _ (Array.getElem?_eq_some_iff.1 Hx1.out).1).trans Hx1.out
  rw [hW2]
  clear hW2 hbd H1 Hx1
  have f1 : ∀ o, W2.frozen? ⟨w.heap.size, o, none⟩ = false := fun o => by simp [World.frozen?, HX.out]
  obtain ⟨d0, d1, d2, d3⟩ := bx4e HX.out
  go_wp2
  have h4 := set4_new (.int .i64 0) (.string ⟨#[]⟩) (.string ⟨#[]⟩) (.string ⟨#[]⟩) HX.out
  have hB4 := set4_dg H5.out.1.dg H5.out.2 HX.out h0.out.lt (.int .i64 0) (.string ⟨#[]⟩) (.string ⟨#[]⟩) (.string ⟨#[]⟩)
  revert h4 hB4
  generalize (((W2.setCell ⟨w.heap.size, 0, none⟩ (.int .i64 0)).setCell ⟨w.heap.size, 1, none⟩ (.string ⟨#[]⟩)).setCell ⟨w.heap.size, 2, none⟩ (.string ⟨#[]⟩)).setCell ⟨w.heap.size, 3, none⟩ (.string ⟨#[]⟩) = W5
  intro h4 hB4
  have e0 : W5.cell? ⟨w.heap.size, 0, none⟩ = some (.int .i64 0) := by simp [World.cell?, h4]
  have e1 : W5.cell? ⟨w.heap.size, 1, none⟩ = some (.string ⟨#[]⟩) := by simp [World.cell?, h4]
  have e2 : W5.cell? ⟨w.heap.size, 2, none⟩ = some (.string ⟨#[]⟩) := by simp [World.cell?, h4]
  have e3 : W5.cell? ⟨w.heap.size, 3, none⟩ = some (.string ⟨#[]⟩) := by simp [World.cell?, h4]
  refine bodyPost_ret (v := .tuple #[evV 0 ⟨#[]⟩ ⟨#[]⟩ ⟨#[]⟩, .bool false]) (by simp [results, Tryd.results28, go_sem, evV, e0, e1, e2, e3]; try rfl) rfl ?_
  exact ⟨rfl, h0.out.grown hB4.1 hB4.2, hB4.2⟩
/-- What a line tells. -/
theorem read_any (B M : Nat) (t : ByteArray) (ht : t.size ≤ 20000) (w : World) (h : Scr B M w) :
    Calls Tryd.prog 28 #[.pointer (some ⟨B, 0, none⟩), .string t] w fun e w' => e = .returned (.tuple #[vE (rdW (pcB 32 t)), .bool (goodL t)]) ∧ Scr B M w' ∧ w.grownBy w' (some B) := by
  obtain ⟨s, r, hws⟩ := List.exists_cons_of_ne_nil (pcB_ne 32 t)
  unfold goodL
  rw [hws]
  cases hk : kndF s with
  | none =>
    rw [kndF_none hk, zeE_no]
    exact read_unknown B M t s r ht w h hws hk
  | some F =>
    obtain ⟨rd, R, hr⟩ := reader_of hk
    rw [hr]
    exact read_known B M t s r F rd R ht w h hws hk
end Go.Proofs.YtcdmnodhkgiaaaaDoor
