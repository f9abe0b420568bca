/- Contract of impl.withoutReleases: what it tells of a text of at most 20000 bytes, by the first byte that is at fault. -/
import Derived.Test.YtbdjaohfnbnacaaEsc
import Derived.BigRegion
namespace Go.Proofs.Ytbdjaohfnbnacaa
open Go.ChangeShapes Go.WideShapes Go.ChangeAt Go.RowKit Go.Shelf
attribute [local go_sem] Oper.semAt_some
/-- Is it a Rel that releases? -/
def waitB (d : Int) (x : UInt8 × Bool) : Bool := !x.2 && ((x.1.toNat : Int) == d)
/-- Is it a fault that is seen at this byte? -/
def badB (a b c d : Int) (x : UInt8 × Bool) : Bool := (x.2 && !ownB a b c d (x.1.toNat : Int)) || (!x.2 && (!((x.1.toNat : Int) == d) && ownB a b c d (x.1.toNat : Int)))
def plainL (d : Int) (pre : List (UInt8 × Bool)) : List Int := pre.flatMap fun x => if waitB d x = true then [] else [(x.1.toNat : Int)]
def wtB (d : Int) (pre : List (UInt8 × Bool)) : Bool := match pre.getLast? with
  | some x => waitB d x
  | none => false
theorem wtB_snoc (d : Int) (pre : List (UInt8 × Bool)) (x : UInt8 × Bool) : wtB d (pre ++ [x]) = waitB d x := by simp [wtB]
theorem plainL_wait (d : Int) (pre : List (UInt8 × Bool)) (x : UInt8 × Bool) (h : waitB d x = true) : plainL d (pre ++ [x]) = plainL d pre := by simp [plainL, h]
theorem plainL_byte (d : Int) (pre : List (UInt8 × Bool)) (x : UInt8 × Bool) (h : waitB d x = false) : plainL d (pre ++ [x]) = plainL d pre ++ [(x.1.toNat : Int)] := by simp [plainL, h]
theorem plainL_len (d : Int) (pre : List (UInt8 × Bool)) : (plainL d pre).length ≤ pre.length := by
  induction pre with
  | nil => simp [plainL]
  | cons x t ih =>
    have h1 : plainL d (x :: t) = (if waitB d x = true then [] else [(x.1.toNat : Int)]) ++ plainL d t := by simp [plainL]
    rw [h1]
    split
    · simp only [List.nil_append, List.length_cons]
      omega
    · simp only [List.length_append, List.length_cons, List.length_nil]
      omega
/-- The blocks that stand beside the slice's box: the syntax twice, the text, the place, the fault, whether a Rel waits. -/
def LW (h : Nat) (a b c d : Int) (s : ByteArray) (at_ fl : Int) (wt : Bool) : List (Nat × Obj) := [(h, (.cells #[.int .i64 a, .int .i64 b, .int .i64 c, .int .i64 d] 24)), (h + 1 + 1 + 1 + 1 + 1, (.cells #[.int .i64 a, .int .i64 b, .int .i64 c, .int .i64 d] 24)), (h + 1 + 1 + 1 + 1 + 1 + 1, .cells #[.string s] 9), (h + 1 + 1, .cells #[.int .i64 at_] 2), (h + 1 + 1 + 1, .cells #[.int .i64 fl] 2), (h + 1 + 1 + 1 + 1, .cells #[.bool wt] 4)]
theorem seven (w : World) (o0 o1 o2 o3 o4 o5 o6 : Obj) : (((((((w.alloc o0).alloc o1).alloc o2).alloc o3).alloc o4).alloc o5).alloc o6).heap[w.heap.size]? = some o0 ∧ (((((((w.alloc o0).alloc o1).alloc o2).alloc o3).alloc o4).alloc o5).alloc o6).heap[w.heap.size + 1]? = some o1 ∧ (((((((w.alloc o0).alloc o1).alloc o2).alloc o3).alloc o4).alloc o5).alloc o6).heap[w.heap.size + 1 + 1]? = some o2 ∧ (((((((w.alloc o0).alloc o1).alloc o2).alloc o3).alloc o4).alloc o5).alloc o6).heap[w.heap.size + 1 + 1 + 1]? = some o3 ∧ (((((((w.alloc o0).alloc o1).alloc o2).alloc o3).alloc o4).alloc o5).alloc o6).heap[w.heap.size + 1 + 1 + 1 + 1]? = some o4 ∧ (((((((w.alloc o0).alloc o1).alloc o2).alloc o3).alloc o4).alloc o5).alloc o6).heap[w.heap.size + 1 + 1 + 1 + 1 + 1]? = some o5 ∧ (((((((w.alloc o0).alloc o1).alloc o2).alloc o3).alloc o4).alloc o5).alloc o6).heap[w.heap.size + 1 + 1 + 1 + 1 + 1 + 1]? = some o6 := by
  have e : (((((((w.alloc o0).alloc o1).alloc o2).alloc o3).alloc o4).alloc o5).alloc o6).heap = (((((((w.heap.push o0).push o1).push o2).push o3).push o4).push o5).push o6) := rfl
  rw [e]
  simp only [Array.getElem?_push, Array.size_push]
  refine ⟨?_, ?_, ?_, ?_, ?_, ?_, ?_⟩
  · rw [if_neg (by omega), if_neg (by omega), if_neg (by omega), if_neg (by omega), if_neg (by omega), if_neg (by omega), if_pos trivial]
  · rw [if_neg (by omega), if_neg (by omega), if_neg (by omega), if_neg (by omega), if_neg (by omega), if_pos trivial]
  · rw [if_neg (by omega), if_neg (by omega), if_neg (by omega), if_neg (by omega), if_pos trivial]
  · rw [if_neg (by omega), if_neg (by omega), if_neg (by omega), if_pos trivial]
  · rw [if_neg (by omega), if_neg (by omega), if_pos trivial]
  · rw [if_neg (by omega), if_pos trivial]
  · rw [if_pos trivial]
theorem LW_wt (h : Nat) (a b c d : Int) (s : ByteArray) (at_ fl : Int) (wt wt' : Bool) : ∀ p ∈ LW h a b c d s at_ fl wt', p = (h + 1 + 1 + 1 + 1, .cells #[.bool wt'] 4) ∨ (p ∈ LW h a b c d s at_ fl wt ∧ p.1 ≠ h + 1 + 1 + 1 + 1) := by
  intro p hp
  simp only [LW, List.mem_cons, List.not_mem_nil, or_false] at hp
  rcases hp with rfl | rfl | rfl | rfl | rfl | rfl
  · exact .inr ⟨by simp [LW], by simp <;> omega⟩
  · exact .inr ⟨by simp [LW], by simp⟩
  · exact .inr ⟨by simp [LW], by simp <;> omega⟩
  · exact .inr ⟨by simp [LW], by simp <;> omega⟩
  · exact .inr ⟨by simp [LW], by simp⟩
  · exact .inl rfl
theorem LW_fl (h : Nat) (a b c d : Int) (s : ByteArray) (at_ fl fl' : Int) (wt : Bool) : ∀ p ∈ LW h a b c d s at_ fl' wt, p = (h + 1 + 1 + 1, .cells #[.int .i64 fl'] 2) ∨ (p ∈ LW h a b c d s at_ fl wt ∧ p.1 ≠ h + 1 + 1 + 1) := by
  intro p hp
  simp only [LW, List.mem_cons, List.not_mem_nil, or_false] at hp
  rcases hp with rfl | rfl | rfl | rfl | rfl | rfl
  · exact .inr ⟨by simp [LW], by simp <;> omega⟩
  · exact .inr ⟨by simp [LW], by simp <;> omega⟩
  · exact .inr ⟨by simp [LW], by simp <;> omega⟩
  · exact .inr ⟨by simp [LW], by simp⟩
  · exact .inl rfl
  · exact .inr ⟨by simp [LW], by simp⟩
theorem LW_at (h : Nat) (a b c d : Int) (s : ByteArray) (at_ at' fl : Int) (wt : Bool) : ∀ p ∈ LW h a b c d s at' fl wt, p = (h + 1 + 1, .cells #[.int .i64 at'] 2) ∨ (p ∈ LW h a b c d s at_ fl wt ∧ p.1 ≠ h + 1 + 1) := by
  intro p hp
  simp only [LW, List.mem_cons, List.not_mem_nil, or_false] at hp
  rcases hp with rfl | rfl | rfl | rfl | rfl | rfl
  · exact .inr ⟨by simp [LW], by simp <;> omega⟩
  · exact .inr ⟨by simp [LW], by simp <;> omega⟩
  · exact .inr ⟨by simp [LW], by simp <;> omega⟩
  · exact .inl rfl
  · exact .inr ⟨by simp [LW], by simp⟩
  · exact .inr ⟨by simp [LW], by simp <;> omega⟩
theorem good_snoc {a b c d : Int} {pre : List (UInt8 × Bool)} {x : UInt8 × Bool} (h : ∀ y ∈ pre, badB a b c d y = false) (hx : badB a b c d x = false) : ∀ y ∈ pre ++ [x], badB a b c d y = false := by
  intro y hy
  rcases List.mem_append.1 hy with h1 | h1
  · exact h y h1
  · obtain rfl : y = x := by simpa using h1
    exact hx
/-- What stands where the loop has been left at a fault. -/
def WX (h : Nat) (a b c d : Int) (s : ByteArray) (w : World) (pre : List (UInt8 × Bool)) (W : World) : Prop := ∃ (pre0 : List (UInt8 × Bool)) (x : UInt8 × Bool) (v : Value) (xs : List Int), pre = pre0 ++ [x] ∧ (∀ y ∈ pre0, badB a b c d y = false) ∧ badB a b c d x = true ∧ EI h (h + 1) (LW h a b c d s pre0.length (if x.2 = true then (pre0.length : Int) - 1 else pre0.length) false) w W v xs
theorem WX.own {h B : Nat} {a b c d : Int} {s : ByteArray} {w W W' : World} {pre : List (UInt8 × Bool)} {row : Option Nat} (hB : h ≤ B) (hx : WX h a b c d s w pre W) (hg : W.grownBy W' row) (hr : ∀ r, row = some r → B ≤ r ∧ ∃ o : Obj, W.heap[r]? = some o ∧ o.isCells = false) : WX h a b c d s w pre W' := by
  obtain ⟨pre0, x, v, xs, h1, h2, h3, hE⟩ := hx
  obtain ⟨v', hE'⟩ := EI.own (β := Unit) (fun _ => LW h a b c d s pre0.length (if x.2 = true then (pre0.length : Int) - 1 else pre0.length) false) (fun _ => xs) hB () W W' row ⟨v, hE⟩ hg hr
  exact ⟨pre0, x, v', xs, h1, h2, h3, hE'⟩
/-- What is told of a text: the first fault, a Rel at the end, or the bytes without releases. -/
def Res (a b c d : Int) (s : ByteArray) (P : List Int) (f : Int) : Prop :=
  (∃ k, k < s.size ∧ (∀ y ∈ upto s d k, badB a b c d y = false) ∧ badB a b c d (item s d k) = true ∧ f = if st s d k = true then (k : Int) - 1 else k) ∨
  ((∀ y ∈ upto s d s.size, badB a b c d y = false) ∧ wtB d (upto s d s.size) = true ∧ f = (s.size : Int) - 1) ∨
  ((∀ y ∈ upto s d s.size, badB a b c d y = false) ∧ wtB d (upto s d s.size) = false ∧ f = -1 ∧ P = plainL d (upto s d s.size))
set_option maxRecDepth 100000 in
set_option maxHeartbeats 4000000 in
theorem without_in (a b c d : Int) (s : ByteArray) (w : World) (hs : s.size ≤ 20000) :
    Calls Try.prog 59 #[.agg #[.int .i64 a, .int .i64 b, .int .i64 c, .int .i64 d], .string s] w fun e w' => ∃ (P : List Int) (f : Int), e = .returned (.tuple #[.string (strOfNums P), .int .i64 f]) ∧ Res a b c d s P f ∧ Below w.heap.size w w' := by
  have hs' : (s.size : Int) ≤ 20000 := by omega
  obtain ⟨i0, hi, hz0, hz1, hz2⟩ := info_parts info5
  refine (callsIn_wide (n := 5)).1 ?_
  refine callsIn_of_wp_marks Try.func59 rfl trivial ?_ rfl
  simp only [Try.ntmps59, List.size_toArray, List.length_cons, List.length_nil, Nat.reduceAdd, Nat.reduceSub, Array.replicate_succ, Array.replicate_zero, List.push_toArray, List.append_toArray, List.nil_append, List.cons_append]
  gi_wp2_with fail
  refine wpIn_wide.2 (wp_scope_straight ((wpIn_wide (n := 5)).1 ?_))
  gi_wp2_with fail
  refine wpIn_wide.2 (wp_label ?_)
  gi_wp2_with fail
  refine ⟨trivial, (scan_in Fence.wide _ trivial rfl a b c d s _).mono ?_⟩
  rintro e w2 ⟨rfl, rfl⟩
  gi_wp2_with fail
  have hE0 : EI w.heap.size (w.heap.size + 1) (LW w.heap.size a b c d s 0 (-1) false) w (((((((w.alloc (.cells #[.int .i64 a, .int .i64 b, .int .i64 c, .int .i64 d] 24)).alloc (.cells #[.slice none 0 0] 22)).alloc (.cells #[.int .i64 0] 2)).alloc (.cells #[.int .i64 (-1)] 2)).alloc (.cells #[.bool false] 4)).alloc (.cells #[.int .i64 a, .int .i64 b, .int .i64 c, .int .i64 d] 24)).alloc (.cells #[.string s] 9)) (.slice none 0 0) [] := by
    refine ⟨?_, World.ownsRow_nil _ _ _ _, ?_, ?_, by omega, ?_, Nat.le_refl _⟩
    · exact (seven w _ _ _ _ _ _ _).2.1
    · intro p hp
      obtain ⟨g0, _, g2, g3, g4, g5, g6⟩ := seven w (.cells #[.int .i64 a, .int .i64 b, .int .i64 c, .int .i64 d] 24) (.cells #[.slice none 0 0] 22) (.cells #[.int .i64 0] 2) (.cells #[.int .i64 (-1)] 2) (.cells #[.bool false] 4) (.cells #[.int .i64 a, .int .i64 b, .int .i64 c, .int .i64 d] 24) (.cells #[.string s] 9)
      simp only [LW, List.mem_cons, List.not_mem_nil, or_false] at hp
      rcases hp with rfl | rfl | rfl | rfl | rfl | rfl
      · exact g0
      · exact g5
      · exact g6
      · exact g2
      · exact g3
      · exact g4
    · exact (((((((Below.refl _ _).alloc (Nat.le_refl _) _).alloc (by simp) _).alloc (by simp; omega) _).alloc (by simp; omega) _).alloc (by simp; omega) _).alloc (by simp; omega) _).alloc (by simp; omega) _
    · intro p hp
      simp only [LW, List.mem_cons, List.not_mem_nil, or_false] at hp
      rcases hp with rfl | rfl | rfl | rfl | rfl | rfl <;> exact ⟨⟨_, _, rfl, by decide⟩, by simp <;> omega⟩
  have ht : (((((((w.alloc (.cells #[.int .i64 a, .int .i64 b, .int .i64 c, .int .i64 d] 24)).alloc (.cells #[.slice none 0 0] 22)).alloc (.cells #[.int .i64 0] 2)).alloc (.cells #[.int .i64 (-1)] 2)).alloc (.cells #[.bool false] 4)).alloc (.cells #[.int .i64 a, .int .i64 b, .int .i64 c, .int .i64 d] 24)).alloc (.cells #[.string s] 9)).cell? ⟨w.heap.size + 1 + 1 + 1 + 1 + 1 + 1, 0, none⟩ = some (.string s) := by simp [go_sem]
  have hrl : (((((((w.alloc (.cells #[.int .i64 a, .int .i64 b, .int .i64 c, .int .i64 d] 24)).alloc (.cells #[.slice none 0 0] 22)).alloc (.cells #[.int .i64 0] 2)).alloc (.cells #[.int .i64 (-1)] 2)).alloc (.cells #[.bool false] 4)).alloc (.cells #[.int .i64 a, .int .i64 b, .int .i64 c, .int .i64 d] 24)).alloc (.cells #[.string s] 9)).cell? ⟨w.heap.size + 1 + 1 + 1 + 1 + 1, 3, none⟩ = some (.int .i64 d) := by simp [go_sem]
  refine wpIn_rangeFunc_ownG rfl (by omega) (gf := 57) (lb := #[.pointer (some ⟨w.heap.size + 1 + 1 + 1 + 1 + 1 + 1, 0, none⟩), .pointer (some ⟨w.heap.size + 1 + 1 + 1 + 1 + 1, 0, none⟩)]) rfl trivial (enters_of Try.func57 (by kernel_rfl) rfl)
    (scan_stops Fence.wide _ trivial rfl (by omega) (w.heap.size + 1 + 1 + 1 + 1 + 1 + 1) (w.heap.size + 1 + 1 + 1 + 1 + 1) s d hs _ (by simp) (by simp) ht hrl) Two.trans (Two.put (by simp) (by simp)) (Below.refl _ _) (fun _ => rfl)
    (fun pre W => (∃ v, EI w.heap.size (w.heap.size + 1) (LW w.heap.size a b c d s pre.length (-1) (wtB d pre)) w W v (plainL d pre)) ∧ ∀ y ∈ pre, badB a b c d y = false)
    (fun cd pre W => cd = .exit 0 ∧ WX w.heap.size a b c d s w pre W)
    (OwnFrom.and (EI.own _ _ (by simp; omega)) (ownFrom_pure _ _))
    (fun _ pre W W' row hs hg hr => ⟨hs.1, WX.own (by simp; omega) hs.2 hg hr⟩)
    ⟨⟨_, hE0⟩, by simp⟩
    (fun x => { tmps := #[.agg #[.int .i64 a, .int .i64 b, .int .i64 c, .int .i64 d], .string s, .pointer (some ⟨w.heap.size, 0, none⟩), undef, .string ⟨#[]⟩, .int .i64 0, .pointer (some ⟨w.heap.size + 1, 0, none⟩), .pointer (some ⟨w.heap.size + 1 + 1, 0, none⟩), .pointer (some ⟨w.heap.size + 1 + 1 + 1, 0, none⟩), .pointer (some ⟨w.heap.size + 1 + 1 + 1 + 1, 0, none⟩), .int .u8 (x.1.toNat : Int), .bool x.2, .agg #[.int .i64 a, .int .i64 b, .int .i64 c, .int .i64 d], .string s, .func (.func 57) #[] #[.pointer (some ⟨w.heap.size + 1 + 1 + 1 + 1 + 1 + 1, 0, none⟩), .pointer (some ⟨w.heap.size + 1 + 1 + 1 + 1 + 1, 0, none⟩)], .int .u8 (x.1.toNat : Int), .bool x.2, undef, undef, undef, undef, undef, undef, undef, undef, undef, undef, undef, undef, undef, undef, undef, undef, undef, undef, undef, undef, undef, undef, undef, undef, undef, undef, undef, undef, undef, undef, undef, undef, undef, undef, undef, undef, undef, undef, undef, undef, undef, undef], defers := [] }) ?assign ?body ?done ?stop
  case assign =>
    intro l x W K hK
    unfold encP
    gi_wp2
    exact hK
  case body =>
    rintro l pre x W ⟨⟨v, hE⟩, hgood⟩ hlt
    have m2 : ∀ (at_ fl : Int) (wt : Bool), (w.heap.size + 1 + 1 + 1 + 1 + 1, (.cells #[.int .i64 a, .int .i64 b, .int .i64 c, .int .i64 d] 24 : Obj)) ∈ LW w.heap.size a b c d s at_ fl wt := fun _ _ _ => by simp [LW]
    have m3 : ∀ (at_ fl : Int) (wt : Bool), (w.heap.size + 1 + 1 + 1 + 1 + 1 + 1, (.cells #[.string s] 9 : Obj)) ∈ LW w.heap.size a b c d s at_ fl wt := fun _ _ _ => by simp [LW]
    have hx0 : 0 ≤ (x.1.toNat : Int) := by omega
    have hx1 : (x.1.toNat : Int) ≤ 255 := by have := x.1.toNat_lt; omega
    have hpl := plainL_len d pre
    have hmx1 : (plainL d pre).length + 1 ≤ maxLen := by unfold maxLen; omega
    have bA : Boxed W (w.heap.size + 1 + 1) 2 (.int .i64 pre.length) := hE.fix (w.heap.size + 1 + 1, _) (by simp [LW])
    have bF : Boxed W (w.heap.size + 1 + 1 + 1) 2 (.int .i64 (-1)) := hE.fix (w.heap.size + 1 + 1 + 1, _) (by simp [LW])
    have bW : Boxed W (w.heap.size + 1 + 1 + 1 + 1) 4 (.bool (wtB d pre)) := hE.fix (w.heap.size + 1 + 1 + 1 + 1, _) (by simp [LW])
    have f1 := hE.fix (w.heap.size, _) (List.mem_cons_self ..)
    have c3' : W.cell? ⟨w.heap.size, 3, none⟩ = some (.int .i64 d) := by simp [World.cell?, f1]
    have kW := bW.cell
    have zW := bW.frozen
    have kA := bA.cell
    have zA := bA.frozen
    have kF := bF.cell
    have zF := bF.frozen
    have c0' : W.cell? ⟨w.heap.size, 0, none⟩ = some (.int .i64 a) := by simp [World.cell?, f1]
    have c1' : W.cell? ⟨w.heap.size, 1, none⟩ = some (.int .i64 b) := by simp [World.cell?, f1]
    have c2' : W.cell? ⟨w.heap.size, 2, none⟩ = some (.int .i64 c) := by simp [World.cell?, f1]
    have HT : Hid (Boxed W (w.heap.size + 1 + 1) 2 (.int .i64 pre.length) ∧ Boxed W (w.heap.size + 1 + 1 + 1) 2 (.int .i64 (-1)) ∧ Boxed W (w.heap.size + 1 + 1 + 1 + 1) 4 (.bool (wtB d pre))) := ⟨bA, bF, bW⟩
    clear f1 hE0 ht hrl bA bF bW
    obtain ⟨xc, xr⟩ := x
    dsimp only at *
    cases xr
    · cases hd : ((xc.toNat : Int) == d)
      · gi_wp2_with fail
        refine ⟨trivial, ?_⟩
        gi_wp2_with fail
        obtain ⟨hE1, hk1⟩ := hE.setL (w.heap.size + 1 + 1 + 1 + 1) 4 _ (.bool false) (by omega) (by omega) (by decide) HT.out.2.2 (LW_wt w.heap.size a b c d s pre.length (-1) (wtB d pre) false)
        refine ⟨trivial, (CallsIn.inRound l (callsIn_wide.2 (isMark_any a b c d _ _ hx0 hx1))).mono ?_⟩
        rintro e w3 ⟨rfl, hb3⟩
        have hE3 := hE1.below hb3
        have hko := hk1.trans (keepsOthers_of_below hb3)
        have bA3 : Boxed w3 (w.heap.size + 1 + 1) 2 (.int .i64 pre.length) := hE3.fix (w.heap.size + 1 + 1, _) (by simp [LW])
        have bF3 : Boxed w3 (w.heap.size + 1 + 1 + 1) 2 (.int .i64 (-1)) := hE3.fix (w.heap.size + 1 + 1 + 1, _) (by simp [LW])
        have kA3 := bA3.cell
        have zA3 := bA3.frozen
        have kF3 := bF3.cell
        have zF3 := bF3.frozen
        have hv := hE3.box.cell
        have hvf := hE3.box.frozen
        have HF : Hid (Boxed w3 (w.heap.size + 1 + 1 + 1) 2 (.int .i64 (-1))) := bF3
        clear bA3 bF3 hE1 hk1 c0' c1' c2' c3' kA zA kF zF kW zW
        cases hm : ownB a b c d (xc.toNat : Int)
        · have tok1 : True := trivial
          gi_wp2_with (gi_at_builtin; have _t := tok1; refine wpListIn_append_own _ rfl _ _ 22 rfl w.heap.size 5 i0 (.int .u8 0) 1 1 Try.underlying22 hi hz0 hz1 hz2 rfl (by decide) _ _ _ rfl (hE3.row.alloc _) ⟨_, 0, none⟩ 1 1 [.int .u8 (xc.toNat : Int)] rfl rfl (cell_one_at _ _ _ _ (by simp)) (by simp [Value.oneCell']) hmx1 (by omega) (by have := hE3.sz; simp at this ⊢; omega) ?_; intro v' w4 hown' hgrow _; obtain ⟨g', cap', rfl⟩ := ownsRow_succ hown'; obtain ⟨hv1, hE4, hk4, hfx⟩ := hE3.app hown' hgrow; have hc1 := hv1.cell; have hf1 := hv1.frozen; have bA4 : Boxed w4 (w.heap.size + 1 + 1) 2 (.int .i64 pre.length) := hfx (w.heap.size + 1 + 1, _) (by simp [LW]); have kA4 := bA4.cell; have zA4 := bA4.frozen; clear tok1)
          have bA5 : Boxed (w4.setCell ⟨w.heap.size + 1, 0, none⟩ (.slice (some ⟨g', 0, none⟩) ((plainL d pre).length + 1) cap')) (w.heap.size + 1 + 1) 2 (.int .i64 pre.length) := hE4.fix (w.heap.size + 1 + 1, _) (by simp [LW])
          obtain ⟨hE5, hk5⟩ := hE4.setL (w.heap.size + 1 + 1) 2 _ (.int .i64 (pre.length + 1)) (by omega) (by omega) (by decide) bA5 (LW_at w.heap.size a b c d s pre.length (pre.length + 1) (-1) false)
          rw [← plainL_byte d pre (xc, false) (by simp [waitB, hd])] at hE5
          exact ⟨((hko.trans hk4).trans hk5).from _, ⟨(hE5.fix _ (m3 _ _ _)).trans (hE.fix _ (m3 _ _ _)).symm, (hE5.fix _ (m2 _ _ _)).trans (hE.fix _ (m2 _ _ _)).symm⟩, ⟨_, by rw [wtB_snoc, show waitB d (xc, false) = false by simp [waitB, hd]]; simpa using hE5⟩, good_snoc hgood (by simp [badB, hd, hm])⟩
        · gi_wp2
          obtain ⟨hE4, hk4⟩ := hE3.setL (w.heap.size + 1 + 1 + 1) 2 _ (.int .i64 (pre.length : Int)) (by omega) (by omega) (by decide) HF.out (LW_fl w.heap.size a b c d s pre.length (-1) (pre.length : Int) false)
          exact ⟨(hko.trans hk4).from _, rfl, pre, (xc, false), v, _, rfl, hgood, by simp [badB, hd, hm], by simpa using hE4⟩
      · gi_wp2
        obtain ⟨hE1, hk1⟩ := hE.setL (w.heap.size + 1 + 1 + 1 + 1) 4 _ (.bool true) (by omega) (by omega) (by decide) HT.out.2.2 (LW_wt w.heap.size a b c d s pre.length (-1) (wtB d pre) true)
        have bA1 : Boxed (W.setCell ⟨w.heap.size + 1 + 1 + 1 + 1, 0, none⟩ (.bool true)) (w.heap.size + 1 + 1) 2 (.int .i64 pre.length) := hE1.fix (w.heap.size + 1 + 1, _) (by simp [LW])
        obtain ⟨hE2, hk2⟩ := hE1.setL (w.heap.size + 1 + 1) 2 _ (.int .i64 (pre.length + 1)) (by omega) (by omega) (by decide) bA1 (LW_at w.heap.size a b c d s pre.length (pre.length + 1) (-1) true)
        rw [← plainL_wait d pre (xc, false) (by simp [waitB, hd])] at hE2
        exact ⟨(hk1.trans hk2).from _, ⟨(hE2.fix _ (m3 _ _ _)).trans (hE.fix _ (m3 _ _ _)).symm, (hE2.fix _ (m2 _ _ _)).trans (hE.fix _ (m2 _ _ _)).symm⟩, ⟨_, by rw [wtB_snoc, show waitB d (xc, false) = true by simp [waitB, hd]]; simpa using hE2⟩, good_snoc hgood (by simp [badB, hd])⟩
    · gi_wp2_with fail
      obtain ⟨hE1, hk1⟩ := hE.setL (w.heap.size + 1 + 1 + 1 + 1) 4 _ (.bool false) (by omega) (by omega) (by decide) HT.out.2.2 (LW_wt w.heap.size a b c d s pre.length (-1) (wtB d pre) false)
      refine ⟨trivial, (CallsIn.inRound l (callsIn_wide.2 (isMark_any a b c d _ _ hx0 hx1))).mono ?_⟩
      rintro e w3 ⟨rfl, hb3⟩
      have hE3 := hE1.below hb3
      have hko := hk1.trans (keepsOthers_of_below hb3)
      have bA3 : Boxed w3 (w.heap.size + 1 + 1) 2 (.int .i64 pre.length) := hE3.fix (w.heap.size + 1 + 1, _) (by simp [LW])
      have bF3 : Boxed w3 (w.heap.size + 1 + 1 + 1) 2 (.int .i64 (-1)) := hE3.fix (w.heap.size + 1 + 1 + 1, _) (by simp [LW])
      have kA3 := bA3.cell
      have zA3 := bA3.frozen
      have kF3 := bF3.cell
      have zF3 := bF3.frozen
      have hv := hE3.box.cell
      have hvf := hE3.box.frozen
      have HF : Hid (Boxed w3 (w.heap.size + 1 + 1 + 1) 2 (.int .i64 (-1))) := bF3
      clear bA3 bF3 hE1 hk1 c0' c1' c2' c3' kA zA kF zF kW zW
      cases hm : ownB a b c d (xc.toNat : Int)
      · gi_wp2
        obtain ⟨hE4, hk4⟩ := hE3.setL (w.heap.size + 1 + 1 + 1) 2 _ (.int .i64 ((pre.length : Int) - 1)) (by omega) (by omega) (by decide) HF.out (LW_fl w.heap.size a b c d s pre.length (-1) ((pre.length : Int) - 1) false)
        exact ⟨(hko.trans hk4).from _, rfl, pre, (xc, true), v, _, rfl, hgood, by simp [badB, hm], by simpa using hE4⟩
      · gi_wp2_with fail
        refine ⟨trivial, ?_⟩
        have tok1 : True := trivial
        gi_wp2_with (gi_at_builtin; have _t := tok1; refine wpListIn_append_own _ rfl _ _ 22 rfl w.heap.size 5 i0 (.int .u8 0) 1 1 Try.underlying22 hi hz0 hz1 hz2 rfl (by decide) _ _ _ rfl (hE3.row.alloc _) ⟨_, 0, none⟩ 1 1 [.int .u8 (xc.toNat : Int)] rfl rfl (cell_one_at _ _ _ _ (by simp)) (by simp [Value.oneCell']) hmx1 (by omega) (by have := hE3.sz; simp at this ⊢; omega) ?_; intro v' w4 hown' hgrow _; obtain ⟨g', cap', rfl⟩ := ownsRow_succ hown'; obtain ⟨hv1, hE4, hk4, hfx⟩ := hE3.app hown' hgrow; have hc1 := hv1.cell; have hf1 := hv1.frozen; have bA4 : Boxed w4 (w.heap.size + 1 + 1) 2 (.int .i64 pre.length) := hfx (w.heap.size + 1 + 1, _) (by simp [LW]); have kA4 := bA4.cell; have zA4 := bA4.frozen; clear tok1)
        have bA5 : Boxed (w4.setCell ⟨w.heap.size + 1, 0, none⟩ (.slice (some ⟨g', 0, none⟩) ((plainL d pre).length + 1) cap')) (w.heap.size + 1 + 1) 2 (.int .i64 pre.length) := hE4.fix (w.heap.size + 1 + 1, _) (by simp [LW])
        obtain ⟨hE5, hk5⟩ := hE4.setL (w.heap.size + 1 + 1) 2 _ (.int .i64 (pre.length + 1)) (by omega) (by omega) (by decide) bA5 (LW_at w.heap.size a b c d s pre.length (pre.length + 1) (-1) false)
        rw [← plainL_byte d pre (xc, true) (by simp [waitB])] at hE5
        exact ⟨((hko.trans hk4).trans hk5).from _, ⟨(hE5.fix _ (m3 _ _ _)).trans (hE.fix _ (m3 _ _ _)).symm, (hE5.fix _ (m2 _ _ _)).trans (hE.fix _ (m2 _ _ _)).symm⟩, ⟨_, by rw [wtB_snoc, show waitB d (xc, true) = false by simp [waitB]]; simpa using hE5⟩, good_snoc hgood (by simp [badB, hm])⟩
  case done =>
    rintro D ys W hD rfl ⟨⟨v, hE⟩, hgood⟩ hK
    have bA : Boxed W (w.heap.size + 1 + 1) 2 (.int .i64 (upto s d s.size).length) := hE.fix (w.heap.size + 1 + 1, _) (by simp [LW])
    have bF : Boxed W (w.heap.size + 1 + 1 + 1) 2 (.int .i64 (-1)) := hE.fix (w.heap.size + 1 + 1 + 1, _) (by simp [LW])
    have bW : Boxed W (w.heap.size + 1 + 1 + 1 + 1) 4 (.bool (wtB d (upto s d s.size))) := hE.fix (w.heap.size + 1 + 1 + 1 + 1, _) (by simp [LW])
    rw [upto_length] at bA
    have kA := bA.cell
    have kF := bF.cell
    have zF := bF.frozen
    have kW := bW.cell
    have hv := hE.box.cell
    have hcv := conv_row (W := W.drew) hE.row
    have HE : Hid (EI w.heap.size (w.heap.size + 1) (LW w.heap.size a b c d s (upto s d s.size).length (-1) (wtB d (upto s d s.size))) w W v (plainL d (upto s d s.size)) ∧ Boxed W (w.heap.size + 1 + 1 + 1) 2 (.int .i64 (-1))) := ⟨hE, bF⟩
    clear hE0 ht hrl hE bA bF bW
    cases hwt : wtB d (upto s d s.size)
    · rw [hwt] at kW
      gi_wp2_with fail
      refine wpIn_wide.2 ?_
      go_region
      gi_wp2
      rw [Exit.noGoto_ret]
      refine ⟨by simp, .inl ⟨_, _, rfl, run_takeDeferred hK, ?_⟩⟩
      exact ⟨_, results_tmp2 rfl _ _ _, plainL d (upto s d s.size), -1, rfl, .inr (.inr ⟨hgood, hwt, rfl, rfl⟩), HE.out.1.bel.drew.trans (belowK_b (w := w) (Nat.le_refl _) W.drew D _ _ (by simp at hD; omega) hK rfl rfl)⟩
    · rw [hwt] at kW
      have hcv2 : ∀ u : Value, (convert 22 9 v).run Try.prog (W.setCell ⟨w.heap.size + 1 + 1 + 1, 0, none⟩ (.int .i64 ((s.size : Int) - 1))).drew = .ok (.string (strOfNums (plainL d (upto s d s.size)))) (W.setCell ⟨w.heap.size + 1 + 1 + 1, 0, none⟩ (.int .i64 ((s.size : Int) - 1))).drew := fun _ => by
        obtain ⟨hE2, _⟩ := HE.out.1.setL (w.heap.size + 1 + 1 + 1) 2 _ (.int .i64 ((s.size : Int) - 1)) (by omega) (by omega) (by decide) HE.out.2 (LW_fl w.heap.size a b c d s (upto s d s.size).length (-1) ((s.size : Int) - 1) (wtB d (upto s d s.size)))
        exact conv_row (W := (W.setCell ⟨w.heap.size + 1 + 1 + 1, 0, none⟩ (.int .i64 ((s.size : Int) - 1))).drew) hE2.row
      have hcv3 := hcv2 undef
      clear hcv hcv2
      gi_wp2_with fail
      refine wpIn_wide.2 ?_
      go_region
      gi_wp2
      rw [Exit.noGoto_ret]
      have hK2 : (W.setCell ⟨w.heap.size + 1 + 1 + 1, 0, none⟩ (.int .i64 ((s.size : Int) - 1))).heap[D]? = some (.deferred (some [])) := (KeepsOthers.setCell W _ _).same D _ hK rfl
      refine ⟨by simp, .inl ⟨_, _, rfl, run_takeDeferred hK2, ?_⟩⟩
      exact ⟨_, results_tmp2 rfl _ _ _, plainL d (upto s d s.size), (s.size : Int) - 1, rfl, .inr (.inl ⟨hgood, hwt, rfl⟩), (HE.out.1.bel.setCell (p := ⟨w.heap.size + 1 + 1 + 1, 0, none⟩) (show w.heap.size ≤ w.heap.size + 1 + 1 + 1 by omega) _).drew.trans (belowK_b (w := w) (Nat.le_refl _) (W.setCell ⟨w.heap.size + 1 + 1 + 1, 0, none⟩ (.int .i64 ((s.size : Int) - 1))).drew D _ _ (by simp at hD; omega) hK2 rfl rfl)⟩
  case stop =>
    rintro D cd pre W hD ⟨k, hk, rfl⟩ ⟨rfl, hX⟩ hK
    obtain ⟨pre0, x, v, xs, e1, hgood, hbad, hE⟩ := hX
    obtain ⟨k0, rfl⟩ : ∃ k0, k = k0 + 1 := by
      cases k with
      | zero => simp [upto] at e1
      | succ k0 => exact ⟨k0, rfl⟩
    rw [upto_succ] at e1
    obtain ⟨rfl, e2⟩ := List.append_inj_left' e1 rfl |> fun h => (⟨h, by rw [h] at e1; exact List.append_cancel_left e1⟩ : upto s d k0 = pre0 ∧ [item s d k0] = [x])
    obtain rfl : item s d k0 = x := by simpa using e2
    rw [upto_length] at hE
    have bF : Boxed W (w.heap.size + 1 + 1 + 1) 2 (.int .i64 (if (item s d k0).2 = true then (k0 : Int) - 1 else k0)) := hE.fix (w.heap.size + 1 + 1 + 1, _) (by simp [LW])
    have bW : Boxed W (w.heap.size + 1 + 1 + 1 + 1) 4 (.bool false) := hE.fix (w.heap.size + 1 + 1 + 1 + 1, _) (by simp [LW])
    have kF := bF.cell
    have kW := bW.cell
    have hv := hE.box.cell
    have hcv := conv_row (W := W.drew) hE.row
    have HE : Hid (Below w.heap.size w W) := hE.bel
    have HR : Hid (Res a b c d s xs (if (item s d k0).2 = true then (k0 : Int) - 1 else k0)) := .inl ⟨k0, by omega, hgood, hbad, rfl⟩
    generalize (if (item s d k0).2 = true then (k0 : Int) - 1 else k0) = f at *
    clear hE0 ht hrl hE bF bW e1 e2 hgood hbad
    gi_wp2_with fail
    refine wpIn_wide.2 ?_
    go_region
    gi_wp2
    rw [Exit.noGoto_ret]
    refine ⟨by simp, .inl ⟨_, _, rfl, run_takeDeferred hK, ?_⟩⟩
    exact ⟨_, results_tmp2 rfl _ _ _, xs, f, rfl, HR.out, HE.out.drew.trans (belowK_b (w := w) (Nat.le_refl _) W.drew D _ _ (by simp at hD; omega) hK rfl rfl)⟩
end Go.Proofs.Ytbdjaohfnbnacaa
