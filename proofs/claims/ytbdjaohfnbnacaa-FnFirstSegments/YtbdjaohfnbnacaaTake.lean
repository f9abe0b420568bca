/- Contract of impl's (*scanner).take on the scanner at the head of a reader: what stands ahead of the next mark that is not released; the place is moved behind it. -/
import Derived.Test.YtbdjaohfnbnacaaSegOf
import Derived.Deep.RegionHeld3
import Derived.Deep.OwnRows
namespace Go.Proofs.Ytbdjaohfnbnacaa
open Go.ChangeShapes Go.WideShapes Go.ChangeAt Go.RowKit Go.Shelf
attribute [local go_sem] Oper.semAt_some
/-- Is it the mark, not released? -/
def isBy (y : Int) (x : UInt8 × Bool) : Bool := !x.2 && ((x.1.toNat : Int) == y)
def bytesL (pre : List (UInt8 × Bool)) : List Int := pre.map fun x => (x.1.toNat : Int)
theorem bytesL_snoc (pre : List (UInt8 × Bool)) (x : UInt8 × Bool) : bytesL (pre ++ [x]) = bytesL pre ++ [(x.1.toNat : Int)] := by simp [bytesL]
theorem bytesL_len (pre : List (UInt8 × Bool)) : (bytesL pre).length = pre.length := by simp [bytesL]
/-- What stands ahead of the first such mark. -/
def takeR (d y : Int) (s : ByteArray) : Option ByteArray := ((upto s d s.size).findIdx? (isBy y)).map fun k => strOfNums (bytesL (upto s d k))
/-- A reader's block. -/
def rdObj (a b c d : Int) (t : ByteArray) (at_ : Int) (lv : Value) : Obj := .cells #[.int .i64 a, .int .i64 b, .int .i64 c, .int .i64 d, .string t, .int .i64 at_, lv] 58
/-- What take hands back. -/
def TkOut (R : Nat) (a b c d : Int) (t : ByteArray) (at_ : Int) (lv : Value) (r : Option ByteArray) (p : ByteArray) (f : Bool) (w' : World) : Prop :=
  match r with
  | none => p = ⟨#[]⟩ ∧ f = false ∧ w'.heap[R]? = some (rdObj a b c d t at_ lv)
  | some q => p = q ∧ f = true ∧ w'.heap[R]? = some (rdObj a b c d t (at_ + (q.size + 1)) lv)
/-- The blocks that stand beside the slice's box. -/
def LT (h R : Nat) (a b c d y : Int) (s : ByteArray) : List (Nat × Obj) := [(h, .cells #[.pointer (some ⟨R, 0, none⟩)] 81), (h + 1, .cells #[.int .i64 y] 2), (h + 1 + 1, .cells #[.string ⟨#[]⟩] 9), (h + 1 + 1 + 1, .cells #[.bool false] 4), (h + 1 + 1 + 1 + 1 + 1, (.cells #[.int .i64 a, .int .i64 b, .int .i64 c, .int .i64 d] 24)), (h + 1 + 1 + 1 + 1 + 1 + 1, .cells #[.string s] 9)]
theorem five (w : World) (o0 o1 o2 o3 o4 : Obj) : (((((w.alloc o0).alloc o1).alloc o2).alloc o3).alloc o4).heap[w.heap.size]? = some o0 ∧ (((((w.alloc o0).alloc o1).alloc o2).alloc o3).alloc o4).heap[w.heap.size + 1]? = some o1 ∧ (((((w.alloc o0).alloc o1).alloc o2).alloc o3).alloc o4).heap[w.heap.size + 1 + 1]? = some o2 ∧ (((((w.alloc o0).alloc o1).alloc o2).alloc o3).alloc o4).heap[w.heap.size + 1 + 1 + 1]? = some o3 ∧ (((((w.alloc o0).alloc o1).alloc o2).alloc o3).alloc o4).heap[w.heap.size + 1 + 1 + 1 + 1]? = some o4 := by
  obtain ⟨h0, h1, h2, h3, h4, _, _⟩ := seven w o0 o1 o2 o3 o4 o4 o4
  have k : ∀ b, b < w.heap.size + 1 + 1 + 1 + 1 + 1 → (((((((w.alloc o0).alloc o1).alloc o2).alloc o3).alloc o4).alloc o4).alloc o4).heap[b]? = (((((w.alloc o0).alloc o1).alloc o2).alloc o3).alloc o4).heap[b]? := fun b hb => (Below.heap_alloc _ _ _ (by simp; omega)).trans (Below.heap_alloc _ _ _ (by simp; omega))
  exact ⟨(k _ (by omega)).symm.trans h0, (k _ (by omega)).symm.trans h1, (k _ (by omega)).symm.trans h2, (k _ (by omega)).symm.trans h3, (k _ (by omega)).symm.trans h4⟩
/-- Where the loop has been left by the return. -/
structure TX (h R : Nat) (a b c d y : Int) (t : ByteArray) (at_ : Int) (lv : Value) (w : World) (pre : List (UInt8 × Bool)) (W : World) : Prop where
  ex : ∃ (pre0 : List (UInt8 × Bool)) (x : UInt8 × Bool), pre = pre0 ++ [x] ∧ (∀ z ∈ pre0, isBy y z = false) ∧ isBy y x = true ∧ W.heap[R]? = some (rdObj a b c d t (at_ + (pre0.length + 1)) lv) ∧ W.heap[h + 1 + 1]? = some (.cells #[.string (strOfNums (bytesL pre0))] 9)
  bo : W.heap[h + 1 + 1 + 1]? = some (.cells #[.bool true] 4)
  keep : Keep R w W
theorem TX.own {h R B : Nat} {a b c d y : Int} {t : ByteArray} {at_ : Int} {lv : Value} {w W W' : World} {pre : List (UInt8 × Bool)} {row : Option Nat} (hB : w.heap.size ≤ B) (hx : TX h R a b c d y t at_ lv w pre W) (hg : W.grownBy W' row) (hr : ∀ r, row = some r → B ≤ r ∧ ∃ o : Obj, W.heap[r]? = some o ∧ o.isCells = false) : TX h R a b c d y t at_ lv w pre W' := by
  have hnc : ∀ {b : Nat} {c : Array Value} {t : TypeId}, W.heap[b]? = some (.cells c t) → W'.heap[b]? = some (.cells c t) := by
    intro b c t hb
    refine (hg.block b (Array.getElem?_eq_some_iff.1 hb).1 fun e => ?_).trans hb
    obtain ⟨_, o, ho, hc⟩ := hr b e.symm
    rw [hb] at ho
    cases ho
    simp [Obj.isCells] at hc
  obtain ⟨pre0, x, e1, e2, e3, e4, e5⟩ := hx.ex
  refine ⟨⟨pre0, x, e1, e2, e3, hnc e4, hnc e5⟩, hnc hx.bo, hg.os.trans hx.keep.os, hg.tape.trans hx.keep.tape, hg.output.trans hx.keep.output, Nat.le_trans hx.keep.size hg.size, fun k hk hkR => ?_⟩
  refine (hg.block k (Nat.lt_of_lt_of_le hk hx.keep.size) fun e => ?_).trans (hx.keep.block k hk hkR)
  have := (hr k e.symm).1
  omega
theorem row_len {n₀ t k : Nat} {W : World} {v : Value} {xs : List Value} (h : W.ownsRow n₀ t 1 v k xs) : ∃ A C, v = .slice A k C := by
  rcases h.2 with ⟨rfl, h0⟩ | ⟨g, cap, cur, rfl, _⟩
  · exact ⟨none, 0, by rw [h0]⟩
  · exact ⟨_, _, rfl⟩
theorem row_set {n₀ t k b : Nat} {W : World} {v : Value} {xs : List Value} (h : W.ownsRow n₀ t 1 v k xs) (hb : b < n₀) (o : Nat) (u : Value) : (W.drew.setCell ⟨b, o, none⟩ u).ownsRow n₀ t 1 v k xs :=
  h.kept (show W.grownBy (W.drew.setCell ⟨b, o, none⟩ u) (some b) from ⟨rfl, rfl, rfl, by simp, fun k _ hk => Below.heap_setCell W.drew ⟨b, o, none⟩ u k (fun e => hk (by rw [e]))⟩) (.inr (row_lt h hb).symm)
theorem keeps3 (W : World) (p q r : Addr) (u v x : Value) : KeepsOthers W (((W.setCell p u).drew.setCell q v).setCell r x) :=
  ((show KeepsOthers W (W.setCell p u).drew from ⟨(KeepsOthers.setCell W p u).size, fun k o hk ho => (KeepsOthers.setCell W p u).same k o hk ho⟩).trans (KeepsOthers.setCell _ q v)).trans (KeepsOthers.setCell _ r x)
theorem Keep.put {R D : Nat} {w W : World} (k : Keep R w W) (hD : w.heap.size ≤ D) (o : Obj) : Keep R w (W.putObj D o) :=
  ⟨(grownBy_putObj' W D o).os.trans k.os, (grownBy_putObj' W D o).tape.trans k.tape, (grownBy_putObj' W D o).output.trans k.output, Nat.le_trans k.size (grownBy_putObj' W D o).size, fun j hj hjR => (World.putObj_heap_other (by omega)).trans (k.block j hj hjR)⟩
theorem TkOut.put {R D : Nat} {a b c d : Int} {t : ByteArray} {at_ : Int} {lv : Value} {r : Option ByteArray} {p : ByteArray} {f : Bool} {W : World} (h : TkOut R a b c d t at_ lv r p f W) (hD : R < D) (o : Obj) : TkOut R a b c d t at_ lv r p f (W.putObj D o) := by
  cases r with
  | none => exact ⟨h.1, h.2.1, (World.putObj_heap_other (by omega)).trans h.2.2⟩
  | some q => exact ⟨h.1, h.2.1, (World.putObj_heap_other (by omega)).trans h.2.2⟩
theorem take_none {d y : Int} {s : ByteArray} (h : ∀ z ∈ upto s d s.size, isBy y z = false) : takeR d y s = none := by
  unfold takeR
  rw [List.findIdx?_eq_none_iff.2 h]
  rfl
theorem take_some {d y : Int} {s : ByteArray} {k : Nat} {pre0 : List (UInt8 × Bool)} {x : UInt8 × Bool} (hk : k ≤ s.size) (e : upto s d k = pre0 ++ [x]) (h : ∀ z ∈ pre0, isBy y z = false) (hx : isBy y x = true) : takeR d y s = some (strOfNums (bytesL pre0)) := by
  obtain ⟨k0, rfl⟩ : ∃ k0, k = k0 + 1 := by
    cases k with
    | zero => simp [upto] at e
    | succ k0 => exact ⟨k0, rfl⟩
  rw [upto_succ] at e
  obtain ⟨rfl, e2⟩ := List.append_inj' e rfl
  obtain rfl : item s d k0 = x := by simpa using e2
  have hi : (upto s d s.size).findIdx? (isBy y) = some k0 := by
    rw [List.findIdx?_eq_some_iff_getElem]
    refine ⟨by rw [upto_length]; omega, ?_, fun j hj => ?_⟩
    · have := upto_get s d s.size k0 (by omega)
      rw [List.getElem?_eq_getElem (by rw [upto_length]; omega)] at this
      rw [Option.some.inj this]
      exact hx
    · have h1 := upto_get s d s.size j (by omega)
      rw [List.getElem?_eq_getElem (by rw [upto_length]; omega)] at h1
      rw [Option.some.inj h1, h _ (List.mem_of_getElem? (upto_get s d k0 j hj))]
      simp
  unfold takeR
  rw [hi]
  rfl
theorem TX.made {h R : Nat} {a b c d y : Int} {t : ByteArray} {at_ : Int} {lv : Value} {w W : World} {pre : List (UInt8 × Bool)} {x : UInt8 × Bool} (hh : h = w.heap.size) (hRl : R < h) (hk : Below h w W) (hgood : ∀ z ∈ pre, isBy y z = false) (hx : isBy y x = true)
    (h2 : Boxed W (h + 1 + 1) 9 (.string ⟨#[]⟩)) (h3 : Boxed W (h + 1 + 1 + 1) 4 (.bool false)) (hr : W.heap[R]? = some (rdObj a b c d t at_ lv)) (n : Int) (hn : n = pre.length) :
    TX h R a b c d y t at_ lv w (pre ++ [x]) (((W.setCell ⟨R, 5, none⟩ (.int .i64 (at_ + (n + 1)))).drew.setCell ⟨h + 1 + 1, 0, none⟩ (.string (strOfNums (bytesL pre)))).setCell ⟨h + 1 + 1 + 1, 0, none⟩ (.bool true)) := by
  subst hn hh
  have e1 : (W.setCell ⟨R, 5, none⟩ (.int .i64 (at_ + (pre.length + 1)))).heap[R]? = some (rdObj a b c d t (at_ + (pre.length + 1)) lv) := heap_setCell_same _ _ _ _ _ _ hr
  refine ⟨⟨pre, x, rfl, hgood, hx, ?_, ?_⟩, ?_, ?_⟩
  · exact (Below.heap_setCell _ _ _ _ (show R ≠ w.heap.size + 1 + 1 + 1 by omega)).trans ((Below.heap_setCell _ _ _ _ (show R ≠ w.heap.size + 1 + 1 by omega)).trans e1)
  · refine (Below.heap_setCell _ _ _ _ (show w.heap.size + 1 + 1 ≠ w.heap.size + 1 + 1 + 1 by omega)).trans ?_
    exact heap_setCell_same _ _ _ _ _ _ ((Below.heap_setCell _ _ _ _ (show w.heap.size + 1 + 1 ≠ R by omega)).trans h2)
  · exact heap_setCell_same _ _ _ _ _ _ ((Below.heap_setCell _ _ _ _ (show w.heap.size + 1 + 1 + 1 ≠ w.heap.size + 1 + 1 by omega)).trans ((Below.heap_setCell _ _ _ _ (show w.heap.size + 1 + 1 + 1 ≠ R by omega)).trans h3))
  · exact (((Keep.of_below hk).setCell 5 _).drew.setNew _ 0 (by omega) _).setNew _ 0 (by omega) _
set_option maxRecDepth 20000 in
set_option maxHeartbeats 4000000 in
theorem take_any (a b c d y : Int) (t : ByteArray) (at_ : Nat) (lv : Value) (R : Nat) (w : World) (hR : w.heap[R]? = some (rdObj a b c d t at_ lv)) (hat : at_ ≤ t.size) (hts : t.size ≤ 20000) :
    Calls Try.prog 41 #[.pointer (some ⟨R, 0, none⟩), .int .i64 y] w fun e w' => ∃ (p : ByteArray) (f : Bool), e = .returned (.tuple #[.string p, .bool f]) ∧ Keep R w w' ∧ TkOut R a b c d t at_ lv (takeR d y (t.extract at_ t.size)) p f w' := by
  obtain ⟨i0, hi, hz0, hz1, hz2⟩ := info_parts info5
  have hRl : R < w.heap.size := (Array.getElem?_eq_some_iff.1 hR).1
  have r0 : w.cell? ⟨R, 0, none⟩ = some (.int .i64 a) := by simp [World.cell?, hR, rdObj]
  have r1 : w.cell? ⟨R, 1, none⟩ = some (.int .i64 b) := by simp [World.cell?, hR, rdObj]
  have r2 : w.cell? ⟨R, 2, none⟩ = some (.int .i64 c) := by simp [World.cell?, hR, rdObj]
  have r3 : w.cell? ⟨R, 3, none⟩ = some (.int .i64 d) := by simp [World.cell?, hR, rdObj]
  have r4 : w.cell? ⟨R, 4, none⟩ = some (.string t) := by simp [World.cell?, hR, rdObj]
  have r5 : w.cell? ⟨R, 5, none⟩ = some (.int .i64 at_) := by simp [World.cell?, hR, rdObj]
  have hat' : (at_ : Int) ≤ (t.size : Int) := by omega
  refine (callsIn_wide (n := 5)).1 ?_
  refine callsIn_of_wp_marks Try.func41 rfl trivial ?_ rfl
  simp only [Try.ntmps41, List.size_toArray, List.length_cons, List.length_nil, Nat.reduceAdd, Nat.reduceSub, Array.replicate_succ, Array.replicate_zero, List.push_toArray, List.append_toArray, List.nil_append, List.cons_append]
  gi_wp2_with fail
  obtain ⟨W5, hW5⟩ : ∃ W5, W5 = (((((w.alloc (.cells #[.pointer (some ⟨R, 0, none⟩)] 81)).alloc (.cells #[.int .i64 y] 2)).alloc (.cells #[.string ⟨#[]⟩] 9)).alloc (.cells #[.bool false] 4)).alloc (.cells #[.slice none 0 0] 22)) := ⟨_, rfl⟩
  rw [← hW5]
  have hsz5 : W5.heap.size = w.heap.size + 1 + 1 + 1 + 1 + 1 := by rw [hW5]; simp
  have hb5 : Below w.heap.size w W5 := by
    rw [hW5]
    exact (((((Below.refl _ _).alloc (Nat.le_refl _) _).alloc (by simp) _).alloc (by simp; omega) _).alloc (by simp; omega) _).alloc (by simp; omega) _
  have g0 : W5.heap[w.heap.size]? = some (.cells #[.pointer (some ⟨R, 0, none⟩)] 81) := by
    rw [hW5]
    exact (five w _ _ _ _ _).1
  have z0 : W5.cell? ⟨w.heap.size, 0, none⟩ = some (.pointer (some ⟨R, 0, none⟩)) := by simp [World.cell?, g0]
  have s0 : W5.cell? ⟨R, 0, none⟩ = some (.int .i64 a) := (hb5.cell (p := ⟨R, 0, none⟩) hRl).trans r0
  have s1 : W5.cell? ⟨R, 1, none⟩ = some (.int .i64 b) := (hb5.cell (p := ⟨R, 1, none⟩) hRl).trans r1
  have s2 : W5.cell? ⟨R, 2, none⟩ = some (.int .i64 c) := (hb5.cell (p := ⟨R, 2, none⟩) hRl).trans r2
  have s3 : W5.cell? ⟨R, 3, none⟩ = some (.int .i64 d) := (hb5.cell (p := ⟨R, 3, none⟩) hRl).trans r3
  have s4 : W5.cell? ⟨R, 4, none⟩ = some (.string t) := (hb5.cell (p := ⟨R, 4, none⟩) hRl).trans r4
  have s5 : W5.cell? ⟨R, 5, none⟩ = some (.int .i64 at_) := (hb5.cell (p := ⟨R, 5, none⟩) hRl).trans r5
  have HG : Hid (W5.heap[w.heap.size]? = some (.cells #[.pointer (some ⟨R, 0, none⟩)] 81) ∧ W5.heap[w.heap.size + 1]? = some (.cells #[.int .i64 y] 2) ∧ W5.heap[w.heap.size + 1 + 1]? = some (.cells #[.string ⟨#[]⟩] 9) ∧ W5.heap[w.heap.size + 1 + 1 + 1]? = some (.cells #[.bool false] 4) ∧ W5.heap[w.heap.size + 1 + 1 + 1 + 1]? = some (.cells #[.slice none 0 0] 22) ∧ Below w.heap.size w W5 ∧ w.heap[R]? = some (rdObj a b c d t at_ lv)) := by
    refine ⟨g0, ?_, ?_, ?_, ?_, hb5, hR⟩ <;> rw [hW5]
    · exact (five w _ _ _ _ _).2.1
    · exact (five w _ _ _ _ _).2.2.1
    · exact (five w _ _ _ _ _).2.2.2.1
    · exact (five w _ _ _ _ _).2.2.2.2
  clear r0 r1 r2 r3 r4 r5 hW5 g0 hR hb5
  refine wpIn_wide.2 ?_
  go_region_held3 (fun W => W.cell? ⟨w.heap.size, 0, none⟩ = some (.pointer (some ⟨R, 0, none⟩)) ∧ W.cell? ⟨R, 0, none⟩ = some (.int .i64 a) ∧ W.cell? ⟨R, 1, none⟩ = some (.int .i64 b) ∧ W.cell? ⟨R, 2, none⟩ = some (.int .i64 c) ∧ W.cell? ⟨R, 3, none⟩ = some (.int .i64 d) ∧ W.cell? ⟨R, 4, none⟩ = some (.string t) ∧ W.cell? ⟨R, 5, none⟩ = some (.int .i64 at_)) (first | exact ⟨z0, s0, s1, s2, s3, s4, s5⟩ | go_keep) (first | (go_at_call 49; refine ((callsIn_wide (n := 5)).1 (scan_in Fence.wide 5 trivial rfl a b c d _ _)).mono ?_; rintro e w2 ⟨rfl, hw2⟩))
  obtain ⟨s, hs⟩ : ∃ s, s = t.extract at_ t.size := ⟨_, rfl⟩
  rw [← hs]
  have hss : s.size ≤ 20000 := by
    rw [hs, ByteArray.size_extract]
    omega
  have HS : Hid (s = t.extract at_ t.size) := hs
  clear hs
  obtain ⟨W7, hW7⟩ : ∃ W7, W7 = ((W5.alloc (.cells #[.int .i64 a, .int .i64 b, .int .i64 c, .int .i64 d] 24)).alloc (.cells #[.string s] 9)).drew := ⟨_, rfl⟩
  rw [← hW7]
  have k7 : ∀ k, k < W5.heap.size → W7.heap[k]? = W5.heap[k]? := fun k hk => by
    rw [hW7]
    exact (Below.heap_alloc _ _ _ (by simp; omega)).trans (Below.heap_alloc _ _ _ hk)
  have n5 : W7.heap[w.heap.size + 1 + 1 + 1 + 1 + 1]? = some (.cells #[.int .i64 a, .int .i64 b, .int .i64 c, .int .i64 d] 24) := by
    rw [hW7, ← hsz5]
    exact (Below.heap_alloc _ _ _ (by simp)).trans (World.alloc_heap_new W5 _)
  have n6 : W7.heap[w.heap.size + 1 + 1 + 1 + 1 + 1 + 1]? = some (.cells #[.string s] 9) := by
    rw [hW7, ← hsz5]
    exact heap_new2 W5 _ _
  have hsz7 : W7.heap.size = w.heap.size + 1 + 1 + 1 + 1 + 1 + 1 + 1 := by rw [hW7]; simp; omega
  have hb7 : Below w.heap.size w W7 := by
    rw [hW7]
    exact (((HG.out.2.2.2.2.2.1).alloc (by omega) _).alloc (by simp; omega) _).drew
  obtain ⟨g0, g1, g2, g3, g4, _, hR⟩ := HG.out
  have hE0 : EI w.heap.size (w.heap.size + 1 + 1 + 1 + 1) (LT w.heap.size R a b c d y s) w W7 (.slice none 0 0) [] := by
    refine ⟨(k7 _ (by omega)).trans g4, World.ownsRow_nil _ _ _ _, ?_, hb7, by omega, ?_, Nat.le_refl _⟩
    · intro p hp
      simp only [LT, List.mem_cons, List.not_mem_nil, or_false] at hp
      rcases hp with rfl | rfl | rfl | rfl | rfl | rfl
      · exact (k7 _ (by omega)).trans g0
      · exact (k7 _ (by omega)).trans g1
      · exact (k7 _ (by omega)).trans g2
      · exact (k7 _ (by omega)).trans g3
      · exact n5
      · exact n6
    · intro p hp
      simp only [LT, List.mem_cons, List.not_mem_nil, or_false] at hp
      rcases hp with rfl | rfl | rfl | rfl | rfl | rfl <;> exact ⟨⟨_, _, rfl, by decide⟩, by simp <;> omega⟩
  have ht : W7.cell? ⟨w.heap.size + 1 + 1 + 1 + 1 + 1 + 1, 0, none⟩ = some (.string s) := by simp [World.cell?, n6]
  have hrl : W7.cell? ⟨w.heap.size + 1 + 1 + 1 + 1 + 1, 3, none⟩ = some (.int .i64 d) := by simp [World.cell?, n5]
  clear g0 g1 g2 g3 g4 n5 n6 k7 hW7 z0 s0 s1 s2 s3 s4 s5 hw2
  gi_wp2_with fail
  refine wpIn_rangeFunc_ownG rfl (by omega) (gf := 57) (lb := #[.pointer (some ⟨w.heap.size + 1 + 1 + 1 + 1 + 1 + 1, 0, none⟩), .pointer (some ⟨w.heap.size + 1 + 1 + 1 + 1 + 1, 0, none⟩)]) rfl trivial (enters_of Try.func57 (by kernel_rfl) rfl)
    (scan_stops Fence.wide _ trivial rfl (by omega) (w.heap.size + 1 + 1 + 1 + 1 + 1 + 1) (w.heap.size + 1 + 1 + 1 + 1 + 1) s d hss _ (by omega) (by omega) ht hrl) Two.trans (Two.put (by omega) (by omega)) (Below.refl _ _) (fun _ => rfl)
    (fun pre W => (∃ v, EI w.heap.size (w.heap.size + 1 + 1 + 1 + 1) (LT w.heap.size R a b c d y s) w W v (bytesL pre)) ∧ ∀ z ∈ pre, isBy y z = false)
    (fun cd pre W => cd = .ret ∧ TX w.heap.size R a b c d y t at_ lv w pre W)
    (OwnFrom.and (EI.own (fun _ => LT w.heap.size R a b c d y s) _ (by omega)) (ownFrom_pure _ _))
    (fun _ pre W W' row hs hg hr => ⟨hs.1, TX.own (by omega) hs.2 hg hr⟩)
    ⟨⟨_, hE0⟩, by simp⟩
    (fun x => { tmps := #[.pointer (some ⟨R, 0, none⟩), .int .i64 y, .pointer (some ⟨w.heap.size, 0, none⟩), .pointer (some ⟨w.heap.size + 1, 0, none⟩), .pointer (some ⟨w.heap.size + 1 + 1, 0, none⟩), .pointer (some ⟨w.heap.size + 1 + 1 + 1, 0, none⟩), .pointer (some ⟨w.heap.size + 1 + 1 + 1 + 1, 0, none⟩), .int .u8 (x.1.toNat : Int), .bool x.2, .pointer (some ⟨R, 0, none⟩), .pointer (some ⟨R, 0, none⟩), .pointer (some ⟨R, 0, none⟩), .agg #[.int .i64 a, .int .i64 b, .int .i64 c, .int .i64 d], .pointer (some ⟨R, 0, none⟩), .pointer (some ⟨R, 0, none⟩), .pointer (some ⟨R, 4, none⟩), .string t, .pointer (some ⟨R, 0, none⟩), .pointer (some ⟨R, 0, none⟩), .pointer (some ⟨R, 5, none⟩), .int .i64 at_, .string s, .func (.func 57) #[] #[.pointer (some ⟨w.heap.size + 1 + 1 + 1 + 1 + 1 + 1, 0, none⟩), .pointer (some ⟨w.heap.size + 1 + 1 + 1 + 1 + 1, 0, none⟩)], .int .u8 (x.1.toNat : Int), .bool x.2, undef, undef, undef, undef, undef, undef, undef, undef, undef, undef, undef, undef, undef, undef, undef, undef, undef, undef, undef, undef, undef, undef, undef, undef], defers := [] }) ?assign ?body ?done ?stop
  case assign =>
    intro l x W K hK
    unfold encP
    gi_wp2
    exact hK
  case body =>
    rintro l pre x W ⟨⟨v, hE⟩, hgood⟩ hlt
    have m2 : (w.heap.size + 1 + 1 + 1 + 1 + 1, ((.cells #[.int .i64 a, .int .i64 b, .int .i64 c, .int .i64 d] 24) : Obj)) ∈ LT w.heap.size R a b c d y s := by simp [LT]
    have m3 : (w.heap.size + 1 + 1 + 1 + 1 + 1 + 1, (.cells #[.string s] 9 : Obj)) ∈ LT w.heap.size R a b c d y s := by simp [LT]
    have hx0 : 0 ≤ (x.1.toNat : Int) := by omega
    have hx1 : (x.1.toNat : Int) ≤ 255 := by have := x.1.toNat_lt; omega
    have HL : Hid ((bytesL pre).length = pre.length) := bytesL_len pre
    have hbl : (bytesL pre).length ≤ 20000 := by rw [HL.out]; omega
    have hmx1 : (bytesL pre).length + 1 ≤ maxLen := by unfold maxLen; omega
    have b0 : Boxed W w.heap.size 81 (.pointer (some ⟨R, 0, none⟩)) := hE.fix (w.heap.size, _) (by simp [LT])
    have bY : Boxed W (w.heap.size + 1) 2 (.int .i64 y) := hE.fix (w.heap.size + 1, _) (by simp [LT])
    have bS : Boxed W (w.heap.size + 1 + 1) 9 (.string ⟨#[]⟩) := hE.fix (w.heap.size + 1 + 1, _) (by simp [LT])
    have bB : Boxed W (w.heap.size + 1 + 1 + 1) 4 (.bool false) := hE.fix (w.heap.size + 1 + 1 + 1, _) (by simp [LT])
    have k0 := b0.cell
    have kY := bY.cell
    have kS := bS.cell
    have zS := bS.frozen
    have kB := bB.cell
    have zB := bB.frozen
    have hWR := (hE.bel.block R hRl).trans hR
    have q5 : W.cell? ⟨R, 5, none⟩ = some (.int .i64 at_) := by simp [World.cell?, hWR, rdObj]
    have zR : W.frozen? ⟨R, 5, none⟩ = false := by simp [World.frozen?, hWR, rdObj]
    have hv := hE.box.cell
    have hvf := hE.box.frozen
    have HT : Hid (Boxed W (w.heap.size + 1 + 1) 9 (.string ⟨#[]⟩) ∧ Boxed W (w.heap.size + 1 + 1 + 1) 4 (.bool false) ∧ W.heap[R]? = some (rdObj a b c d t at_ lv)) := ⟨bS, bB, hWR⟩
    clear b0 bY bS bB hWR hE0 ht hrl
    obtain ⟨xc, xr⟩ := x
    dsimp only at *
    cases xr
    · cases hd : ((xc.toNat : Int) == y)
      · have tok1 : True := trivial
        gi_wp2_with (gi_at_builtin; have _t := tok1; refine wpListIn_append_own _ rfl _ _ 22 rfl w.heap.size 5 i0 (.int .u8 0) 1 1 Try.underlying22 hi hz0 hz1 hz2 rfl (by decide) _ _ _ rfl (hE.row.alloc _) ⟨_, 0, none⟩ 1 1 [.int .u8 (xc.toNat : Int)] rfl rfl (cell_one_at _ _ _ _ (by simp)) (by simp [Value.oneCell']) hmx1 (by omega) (by have := hE.sz; simp at this ⊢; omega) ?_; intro v' w4 hown' hgrow _; obtain ⟨g', cap', rfl⟩ := ownsRow_succ hown'; obtain ⟨hv1, hE4, hk4, hfx⟩ := hE.app hown' hgrow; have hc1 := hv1.cell; have hf1 := hv1.frozen; clear tok1)
        rw [← bytesL_snoc pre (xc, false)] at hE4
        exact ⟨hk4.from _, ⟨(hE4.fix _ m3).trans (hE.fix _ m3).symm, (hE4.fix _ m2).trans (hE.fix _ m2).symm⟩, ⟨_, by simpa using hE4⟩, fun z hz => by
          rcases List.mem_append.1 hz with q | q
          · exact hgood z q
          · simp only [List.mem_cons, List.not_mem_nil, or_false] at q
            rw [q]
            simp [isBy, hd]⟩
      · obtain ⟨A, C, hva⟩ := row_len hE.row
        subst hva
        have hcv := conv_row (W := (W.setCell ⟨R, 5, none⟩ (.int .i64 (at_ + ((bytesL pre).length + 1)))).drew) (row_set hE.row hRl 5 _)
        gi_wp2_with fail
        have HX : Hid (isBy y (xc, false) = true) := by show isBy y (xc, false) = true; simp [isBy, hd]
        gi_region <;> gi_wp2 <;> exact ⟨(keeps3 _ _ _ _ _ _ _).from _, rfl, TX.made rfl hRl hE.bel hgood HX.out HT.out.1 HT.out.2.1 HT.out.2.2 _ (by rw [HL.out])⟩
    · have tok1 : True := trivial
      gi_wp2_with (gi_at_builtin; have _t := tok1; refine wpListIn_append_own _ rfl _ _ 22 rfl w.heap.size 5 i0 (.int .u8 0) 1 1 Try.underlying22 hi hz0 hz1 hz2 rfl (by decide) _ _ _ rfl (hE.row.alloc _) ⟨_, 0, none⟩ 1 1 [.int .u8 (xc.toNat : Int)] rfl rfl (cell_one_at _ _ _ _ (by simp)) (by simp [Value.oneCell']) hmx1 (by omega) (by have := hE.sz; simp at this ⊢; omega) ?_; intro v' w4 hown' hgrow _; obtain ⟨g', cap', rfl⟩ := ownsRow_succ hown'; obtain ⟨hv1, hE4, hk4, hfx⟩ := hE.app hown' hgrow; have hc1 := hv1.cell; have hf1 := hv1.frozen; clear tok1)
      rw [← bytesL_snoc pre (xc, true)] at hE4
      exact ⟨hk4.from _, ⟨(hE4.fix _ m3).trans (hE.fix _ m3).symm, (hE4.fix _ m2).trans (hE.fix _ m2).symm⟩, ⟨_, by simpa using hE4⟩, fun z hz => by
        rcases List.mem_append.1 hz with q | q
        · exact hgood z q
        · simp only [List.mem_cons, List.not_mem_nil, or_false] at q
          rw [q]
          simp [isBy]⟩
  case done =>
    rintro D ys W hD rfl ⟨⟨v, hE⟩, hgood⟩ hK
    have bS : Boxed W (w.heap.size + 1 + 1) 9 (.string ⟨#[]⟩) := hE.fix (w.heap.size + 1 + 1, _) (by simp [LT])
    have bB : Boxed W (w.heap.size + 1 + 1 + 1) 4 (.bool false) := hE.fix (w.heap.size + 1 + 1 + 1, _) (by simp [LT])
    have kS := bS.cell
    have zS := bS.frozen
    have kB := bB.cell
    have zB := bB.frozen
    have HE : Hid (Below w.heap.size w W) := hE.bel
    have hWR := (hE.bel.block R hRl).trans hR
    have HB : Hid (Boxed W (w.heap.size + 1 + 1) 9 (.string ⟨#[]⟩) ∧ Boxed W (w.heap.size + 1 + 1 + 1) 4 (.bool false) ∧ W.heap[R]? = some (rdObj a b c d t at_ lv)) := ⟨bS, bB, hWR⟩
    have HN : Hid (takeR d y (t.extract at_ t.size) = none) := by
      show takeR d y (t.extract at_ t.size) = none
      rw [← HS.out]
      exact take_none hgood
    clear hE0 ht hrl hE bS bB hgood hWR
    gi_wp2
    have hK2 : ((W.setCell ⟨w.heap.size + 1 + 1, 0, none⟩ (.string ⟨#[]⟩)).setCell ⟨w.heap.size + 1 + 1 + 1, 0, none⟩ (.bool false)).heap[D]? = some (.deferred (some [])) := ((KeepsOthers.setCell W _ _).trans (KeepsOthers.setCell _ _ _)).same D _ hK rfl
    refine ⟨by simp, .inl ⟨_, _, rfl, run_takeDeferred hK2, ?_⟩⟩
    have c2 : ∀ o, (((W.setCell ⟨w.heap.size + 1 + 1, 0, none⟩ (.string ⟨#[]⟩)).setCell ⟨w.heap.size + 1 + 1 + 1, 0, none⟩ (.bool false)).putObj D o).heap[w.heap.size + 1 + 1]? = some (.cells #[.string ⟨#[]⟩] 9) := fun o => (World.putObj_heap_other (by omega)).trans ((Below.heap_setCell _ _ _ _ (show w.heap.size + 1 + 1 ≠ w.heap.size + 1 + 1 + 1 by omega)).trans (HB.out.1.set _))
    have c3 : ∀ o, (((W.setCell ⟨w.heap.size + 1 + 1, 0, none⟩ (.string ⟨#[]⟩)).setCell ⟨w.heap.size + 1 + 1 + 1, 0, none⟩ (.bool false)).putObj D o).heap[w.heap.size + 1 + 1 + 1]? = some (.cells #[.bool false] 4) := fun o => (World.putObj_heap_other (by omega)).trans (heap_setCell_same _ _ _ _ _ _ ((Below.heap_setCell _ _ _ _ (show w.heap.size + 1 + 1 + 1 ≠ w.heap.size + 1 + 1 by omega)).trans HB.out.2.1))
    have d2 : ∀ o, (((W.setCell ⟨w.heap.size + 1 + 1, 0, none⟩ (.string ⟨#[]⟩)).setCell ⟨w.heap.size + 1 + 1 + 1, 0, none⟩ (.bool false)).putObj D o).cell? ⟨w.heap.size + 1 + 1, 0, none⟩ = some (.string ⟨#[]⟩) := fun o => by simp [World.cell?, c2]
    have d3 : ∀ o, (((W.setCell ⟨w.heap.size + 1 + 1, 0, none⟩ (.string ⟨#[]⟩)).setCell ⟨w.heap.size + 1 + 1 + 1, 0, none⟩ (.bool false)).putObj D o).cell? ⟨w.heap.size + 1 + 1 + 1, 0, none⟩ = some (.bool false) := fun o => by simp [World.cell?, c3]
    refine ⟨.tuple #[.string ⟨#[]⟩, .bool false], by simp [results, Try.results41, go_sem, d2, d3], _, _, rfl, ((((Keep.of_below HE.out).setNew _ 0 (by omega) _).setNew _ 0 (by omega) _).put (by omega) _), ?_⟩
    rw [HN.out]
    exact ⟨rfl, rfl, (World.putObj_heap_other (by omega)).trans ((Below.heap_setCell _ _ _ _ (show R ≠ w.heap.size + 1 + 1 + 1 by omega)).trans ((Below.heap_setCell _ _ _ _ (show R ≠ w.heap.size + 1 + 1 by omega)).trans HB.out.2.2))⟩
  case stop =>
    rintro D cd pre W hD ⟨k, hk, rfl⟩ ⟨rfl, hX⟩ hK
    have HX : Hid (TX w.heap.size R a b c d y t at_ lv w (upto s d k) W) := hX
    clear hX hE0 ht hrl
    gi_wp2
    refine ⟨by simp, .inl ⟨_, _, rfl, run_takeDeferred hK, ?_⟩⟩
    obtain ⟨pre0, x, e1, e2, e3, e4, e5⟩ := HX.out.ex
    have c2 : ∀ o, (W.putObj D o).heap[w.heap.size + 1 + 1]? = some (.cells #[.string (strOfNums (bytesL pre0))] 9) := fun o => (World.putObj_heap_other (by omega)).trans e5
    have c3 : ∀ o, (W.putObj D o).heap[w.heap.size + 1 + 1 + 1]? = some (.cells #[.bool true] 4) := fun o => (World.putObj_heap_other (by omega)).trans HX.out.bo
    have d2 : ∀ o, (W.putObj D o).cell? ⟨w.heap.size + 1 + 1, 0, none⟩ = some (.string (strOfNums (bytesL pre0))) := fun o => by simp [World.cell?, c2]
    have d3 : ∀ o, (W.putObj D o).cell? ⟨w.heap.size + 1 + 1 + 1, 0, none⟩ = some (.bool true) := fun o => by simp [World.cell?, c3]
    refine ⟨.tuple #[.string (strOfNums (bytesL pre0)), .bool true], by simp [results, Try.results41, go_sem, d2, d3], _, _, rfl, HX.out.keep.put (by omega) _, ?_⟩
    rw [← HS.out, take_some hk e1 e2 e3]
    refine ⟨rfl, rfl, (World.putObj_heap_other (by omega)).trans ?_⟩
    rw [strOfNums_size, bytesL_len]
    exact e4
end Go.Proofs.Ytbdjaohfnbnacaa
