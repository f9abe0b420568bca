/- Plain lemmas on escaped texts: without their releases they are the texts; put together with a mark between they are cut there alone. -/
import Derived.Test.YtbdjaohfnbnacaaListsCut
import Derived.Test.YtbdjaohfnbnacaaUnDef
import Derived.Test.YtbdjaohfnbnacaaRightSpec
namespace Go.Proofs.Ytbdjaohfnbnacaa
open Go.RowKit
theorem markB_bd {c : Int} (h : markB c = true) : 33 ≤ c ∧ c ≤ 126 := by
  unfold markB at h
  have := of_decide_eq_true h
  omega
/-- What is known of four right marks. -/
theorem right_facts {a b c d : Int} (hr : rightB a b c d = true) : (33 ≤ a ∧ a ≤ 126) ∧ (33 ≤ b ∧ b ≤ 126) ∧ (33 ≤ c ∧ c ≤ 126) ∧ (33 ≤ d ∧ d ≤ 126) ∧ a ≠ b ∧ a ≠ c ∧ b ≠ c ∧ a ≠ d ∧ b ≠ d ∧ c ≠ d := by
  rw [rightB_eq] at hr
  simp only [Bool.and_eq_true, Bool.not_eq_true', beq_eq_false_iff_ne] at hr
  obtain ⟨h1, ⟨h2, h3⟩, ⟨h4, h5, h6⟩, h7, h8, h9, h10⟩ := hr
  exact ⟨markB_bd h1, markB_bd h2, markB_bd h4, markB_bd h7, h3, h5, h6, h8, h9, h10⟩
/-- A mark's byte. -/
def mb (d : Int) : UInt8 := UInt8.ofNat d.toNat
theorem mb_num {d : Int} (h : 33 ≤ d ∧ d ≤ 126) : ((mb d).toNat : Int) = d := by
  unfold mb
  simp
  omega
def escU (a b c d : Int) (l : List UInt8) : List UInt8 := l.flatMap fun x => if ownB a b c d (x.toNat : Int) = true then [mb d, x] else [x]
def escM (a b c d : Int) (l : List UInt8) : List (UInt8 × Bool) := l.flatMap fun x => if ownB a b c d (x.toNat : Int) = true then [(mb d, false), (x, true)] else [(x, false)]
theorem escU_cons (a b c d : Int) (x : UInt8) (l : List UInt8) : escU a b c d (x :: l) = (if ownB a b c d (x.toNat : Int) = true then [mb d, x] else [x]) ++ escU a b c d l := by simp [escU]
theorem escM_cons (a b c d : Int) (x : UInt8) (l : List UInt8) : escM a b c d (x :: l) = (if ownB a b c d (x.toNat : Int) = true then [(mb d, false), (x, true)] else [(x, false)]) ++ escM a b c d l := by simp [escM]
theorem esc_escU {a b c d : Int} (hd : 33 ≤ d ∧ d ≤ 126) (l : List UInt8) : ∀ r, esc a b c d (mk d r l) = (escU a b c d l).map fun x => (x.toNat : Int) := by
  induction l with
  | nil => intro r; rfl
  | cons x t ih =>
    intro r
    have e : esc a b c d (mk d r (x :: t)) = esc1 a b c d (x.toNat : Int) ++ esc a b c d (mk d (!r && ((x.toNat : Int) == d)) t) := by simp [esc, mk]
    rw [e, ih, escU_cons, List.map_append]
    congr 1
    unfold esc1
    have hm := mb_num hd
    split
    · simp only [List.map_cons, List.map_nil, hm]
      congr 1
      omega
    · rfl
theorem own_d (a b c d : Int) : ownB a b c d d = true := by simp [ownB]
theorem own_not {a b c d x : Int} (h : ¬ ownB a b c d x = true) : x ≠ a ∧ x ≠ b ∧ x ≠ c ∧ x ≠ d := by
  simp only [ownB, Bool.or_eq_true, beq_iff_eq, not_or] at h
  exact h
theorem mk_escU {a b c d : Int} (hd : 33 ≤ d ∧ d ≤ 126) (l m : List UInt8) : mk d false (escU a b c d l ++ m) = escM a b c d l ++ mk d false m := by
  induction l with
  | nil => rfl
  | cons x t ih =>
    rw [escU_cons, escM_cons]
    have hm := mb_num hd
    split
    · simp [mk, hm, ih]
    · rename_i h
      have hx := (own_not h).2.2.2
      have : (((x.toNat : Int)) == d) = false := by rw [beq_eq_false_iff_ne]; exact hx
      simp [mk, this, ih]
theorem escM_good {a b c d : Int} (hd : 33 ≤ d ∧ d ≤ 126) (l : List UInt8) : ∀ y ∈ escM a b c d l, badB a b c d y = false := by
  have hm := mb_num hd
  intro y hy
  simp only [escM, List.mem_flatMap] at hy
  obtain ⟨x, _, hx⟩ := hy
  by_cases h : ownB a b c d (x.toNat : Int) = true
  · rw [if_pos h] at hx
    simp only [List.mem_cons, List.not_mem_nil, or_false] at hx
    rcases hx with rfl | rfl
    · simp [badB, hm]
    · simp [badB, h]
  · rw [if_neg h] at hx
    simp only [List.mem_cons, List.not_mem_nil, or_false] at hx
    subst hx
    simp only [Bool.not_eq_true] at h
    simp [badB, h]
theorem plain_escM {a b c d : Int} (hd : 33 ≤ d ∧ d ≤ 126) (l : List UInt8) : plainL d (escM a b c d l) = l.map fun x => (x.toNat : Int) := by
  have hm := mb_num hd
  induction l with
  | nil => rfl
  | cons x t ih =>
    rw [escM_cons]
    unfold plainL at ih ⊢
    rw [List.flatMap_append, ih]
    split
    · simp [waitB, hm]
    · rename_i h
      have hx := (own_not h).2.2.2
      simp [waitB, hx]
theorem wt_escM {a b c d : Int} (l : List UInt8) : wtB d (escM a b c d l) = false := by
  rcases List.eq_nil_or_concat l with rfl | ⟨t, x, rfl⟩
  · rfl
  · have e : escM a b c d (t ++ [x]) = escM a b c d t ++ (if ownB a b c d (x.toNat : Int) = true then [(mb d, false), (x, true)] else [(x, false)]) := by simp [escM]
    rw [show t.concat x = t ++ [x] by simp, e]
    split
    · rw [show ([(mb d, false), (x, true)] : List (UInt8 × Bool)) = [(mb d, false)] ++ [(x, true)] from rfl, ← List.append_assoc, wtB_snoc]
      simp [waitB]
    · rename_i h
      rw [wtB_snoc]
      simp [waitB, (own_not h).2.2.2]
theorem cut_escM {a b c d y : Int} (hd : 33 ≤ d ∧ d ≤ 126) (hy : ownB a b c d y = true) (hyd : y ≠ d) (l : List UInt8) : ∀ z, (escM a b c d l).foldl (cutS y) z = (z.1, z.2 ++ (escU a b c d l).map fun x => (x.toNat : Int)) := by
  have hm := mb_num hd
  induction l with
  | nil => intro z; simp [escM, escU]
  | cons x t ih =>
    intro z
    rw [escM_cons, escU_cons, List.foldl_append, ih]
    split
    · have h1 : (d == y) = false := by rw [beq_eq_false_iff_ne]; exact fun e => hyd e.symm
      simp [cutS, hm, h1]
    · rename_i h
      have h1 : ((x.toNat : Int) == y) = false := by
        rw [beq_eq_false_iff_ne]
        intro e
        rw [e] at h
        exact h hy
      simp [cutS, h1]
/-- The escaped text. -/
def escS (a b c d : Int) (t : ByteArray) : ByteArray := strOfNums (esc a b c d (upto t d t.size))
theorem escS_eq {a b c d : Int} (hd : 33 ≤ d ∧ d ≤ 126) (t : ByteArray) : escS a b c d t = ⟨(escU a b c d t.data.toList).toArray⟩ := by
  unfold escS
  rw [upto_all, esc_escU hd, strOfNums_bytesOf]
theorem escS_size (a b c d : Int) (t : ByteArray) : (escS a b c d t).size ≤ 2 * t.size := by
  unfold escS
  rw [strOfNums_size]
  have := esc_len a b c d (upto t d t.size)
  rwa [upto_length] at this
theorem escS_upto {a b c d : Int} (hd : 33 ≤ d ∧ d ≤ 126) (t : ByteArray) : upto (escS a b c d t) d (escS a b c d t).size = escM a b c d t.data.toList := by
  rw [upto_all, escS_eq hd]
  have := mk_escU (a := a) (b := b) (c := c) hd t.data.toList []
  simpa [mk] using this
/-- Without its releases an escaped text is the text. -/
theorem res_esc {a b c d : Int} (hd : 33 ≤ d ∧ d ≤ 126) (t : ByteArray) {P : List Int} {f : Int} (h : Res a b c d (escS a b c d t) P f) : f = -1 ∧ strOfNums P = t := by
  have hu := escS_upto (a := a) (b := b) (c := c) hd t
  have hg := escM_good (a := a) (b := b) (c := c) hd t.data.toList
  rcases h with ⟨k, hk, _, hb, _⟩ | ⟨_, hw, _⟩ | ⟨_, _, hf, hP⟩
  · have hm : item (escS a b c d t) d k ∈ upto (escS a b c d t) d (escS a b c d t).size := by
      unfold upto
      exact List.mem_map.2 ⟨k, by simpa using hk, rfl⟩
    rw [hu] at hm
    have := hg _ hm
    rw [hb] at this
    cases this
  · rw [hu, wt_escM] at hw
    cases hw
  · refine ⟨hf, ?_⟩
    rw [hP, hu, plain_escM hd, strOfNums_self]
theorem un_esc {a b c d : Int} (hr : rightB a b c d = true) (t t' : ByteArray) (at_ code : Int) (hs : t.size ≤ 10000) (h : UnOut a b c d (escS a b c d t) t' at_ code) : t' = t ∧ at_ = 0 ∧ code = 0 := by
  have hd := (right_facts hr).2.2.2.1
  have hsz := escS_size a b c d t
  rcases h with ⟨h1, _⟩ | ⟨_, h1, _⟩ | ⟨_, _, P, f, hres, h2⟩
  · omega
  · rw [hr] at h1
    cases h1
  · obtain ⟨hf, hP⟩ := res_esc hd t hres
    rcases h2 with ⟨h3, _⟩ | ⟨_, h4, h5, h6⟩
    · omega
    · exact ⟨h4.trans hP, h5, h6⟩
end Go.Proofs.Ytbdjaohfnbnacaa
