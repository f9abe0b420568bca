/- Plain lemmas: a right segment is read back from its text, whatever stands behind. -/
import Derived.Test.YtbdjaohfnbnacaaListsEsc
import Derived.Test.YtbdjaohfnbnacaaReadL
import Derived.Test.YtbdjaohfnbnacaaTextG
namespace Go.Proofs.Ytbdjaohfnbnacaa
open Go.RowKit
/-- The pieces so far and the one at hand. -/
def zz (z : List (List Int) × List Int) : List (List Int) := z.1 ++ [z.2]
theorem cut_free {y : Int} : ∀ (toks : List (UInt8 × Bool)) (z : List (List Int) × List Int), (∀ t ∈ toks, isBy y t = false) → toks.foldl (cutS y) z = (z.1, z.2 ++ bytesL toks) := by
  intro toks
  induction toks with
  | nil => intro z _; simp [bytesL]
  | cons t ts ih =>
    intro z h
    have h1 := h t (by simp)
    rw [List.foldl_cons]
    have e : cutS y z t = (z.1, z.2 ++ [(t.1.toNat : Int)]) := by
      unfold cutS
      unfold isBy at h1
      rw [h1]
      rfl
    rw [e, ih _ (fun x hx => h x (by simp [hx]))]
    simp [bytesL]
theorem escM_free {a b c d y : Int} (hd : 33 ≤ d ∧ d ≤ 126) (hy : ownB a b c d y = true) (hyd : y ≠ d) (l : List UInt8) : ∀ t ∈ escM a b c d l, isBy y t = false := by
  have hm := mb_num hd
  intro t ht
  unfold escM at ht
  obtain ⟨x, _, hx⟩ := List.mem_flatMap.1 ht
  split at hx
  · simp only [List.mem_cons, List.not_mem_nil, or_false] at hx
    rcases hx with rfl | rfl
    · unfold isBy
      rw [hm]
      simp
      exact fun e => hyd e.symm
    · simp [isBy]
  · rename_i hn
    simp only [List.mem_cons, List.not_mem_nil, or_false] at hx
    subst hx
    unfold isBy
    simp
    intro e
    rw [e] at hn
    exact hn hy
theorem mB_mark {x : Int} (h : 33 ≤ x ∧ x ≤ 126) : ((mB x).toNat : Int) = x := by
  rw [mB_num]
  omega
theorem escB_eq {a b c d : Int} (hd : 33 ≤ d ∧ d ≤ 126) (t : ByteArray) : escB a b c d t = escU a b c d t.data.toList := by
  have := escS_eq (a := a) (b := b) (c := c) hd t
  unfold escS at this
  unfold escB
  rw [this]
/-- Parts behind the first, each with Comp ahead. -/
def tU (a b c d : Int) (r : List ByteArray) : List UInt8 := r.flatMap fun p => mB c :: escU a b c d p.data.toList
/-- An element's text. -/
def eU (a b c d : Int) : List ByteArray → List UInt8
  | [] => []
  | p :: r => escU a b c d p.data.toList ++ tU a b c d r
def tM (a b c d : Int) (r : List ByteArray) : List (UInt8 × Bool) := r.flatMap fun p => (mB c, false) :: escM a b c d p.data.toList
def eM (a b c d : Int) : List ByteArray → List (UInt8 × Bool)
  | [] => []
  | p :: r => escM a b c d p.data.toList ++ tM a b c d r
/-- The marks of a right syntax. -/
structure Mks (a b c d : Int) : Prop where
  ha : 33 ≤ a ∧ a ≤ 126
  hb : 33 ≤ b ∧ b ≤ 126
  hc : 33 ≤ c ∧ c ≤ 126
  hd : 33 ≤ d ∧ d ≤ 126
  ab : a ≠ b
  ac : a ≠ c
  bc : b ≠ c
  ad : a ≠ d
  bd : b ≠ d
  cd : c ≠ d
theorem mks {a b c d : Int} (h : rightB a b c d = true) : Mks a b c d := by
  obtain ⟨h1, h2, h3, h4, h5, h6, h7, h8, h9, h10⟩ := right_facts h
  exact ⟨h1, h2, h3, h4, h5, h6, h7, h8, h9, h10⟩
theorem mk_mark {d x : Int} (hx : 33 ≤ x ∧ x ≤ 126) (hxd : x ≠ d) (m : List UInt8) : mk d false (mB x :: m) = (mB x, false) :: mk d false m := by
  have h1 : ((mB x).toNat : Int) = x := mB_mark hx
  have h2 : (x == d) = false := by rw [beq_eq_false_iff_ne]; exact hxd
  simp [mk, h1, h2]
theorem mk_tU {a b c d : Int} (M : Mks a b c d) (r : List ByteArray) (m : List UInt8) : mk d false (tU a b c d r ++ m) = tM a b c d r ++ mk d false m := by
  induction r with
  | nil => simp [tU, tM]
  | cons p r ih =>
    have e1 : tU a b c d (p :: r) = mB c :: (escU a b c d p.data.toList ++ tU a b c d r) := by simp [tU]
    have e2 : tM a b c d (p :: r) = (mB c, false) :: (escM a b c d p.data.toList ++ tM a b c d r) := by simp [tM]
    rw [e1, e2, List.cons_append, mk_mark M.hc M.cd, List.append_assoc, mk_escU M.hd, ih]
    simp
theorem mk_eU {a b c d : Int} (M : Mks a b c d) (ss : List ByteArray) (m : List UInt8) : mk d false (eU a b c d ss ++ m) = eM a b c d ss ++ mk d false m := by
  cases ss with
  | nil => simp [eU, eM]
  | cons p r =>
    simp only [eU, eM]
    rw [List.append_assoc, mk_escU M.hd, mk_tU M]
    simp
theorem tM_free {a b c d y : Int} (M : Mks a b c d) (hy : ownB a b c d y = true) (hyd : y ≠ d) (hyc : y ≠ c) (r : List ByteArray) : ∀ t ∈ tM a b c d r, isBy y t = false := by
  intro t ht
  obtain ⟨p, _, hp⟩ := List.mem_flatMap.1 ht
  rcases List.mem_cons.1 hp with rfl | hp
  · unfold isBy
    rw [mB_mark M.hc]
    simp
    exact fun e => hyc e.symm
  · exact escM_free M.hd hy hyd _ t hp
theorem eM_free {a b c d y : Int} (M : Mks a b c d) (hy : ownB a b c d y = true) (hyd : y ≠ d) (hyc : y ≠ c) (ss : List ByteArray) : ∀ t ∈ eM a b c d ss, isBy y t = false := by
  cases ss with
  | nil => intro t ht; simp [eM] at ht
  | cons p r =>
    intro t ht
    rcases List.mem_append.1 ht with h | h
    · exact escM_free M.hd hy hyd _ t h
    · exact tM_free M hy hyd hyc r t h
theorem bytesL_escM {a b c d : Int} (hd : 33 ≤ d ∧ d ≤ 126) (l : List UInt8) : bytesL (escM a b c d l) = (escU a b c d l).map fun x => (x.toNat : Int) := by
  have := mk_escU (a := a) (b := b) (c := c) hd l []
  simp only [List.append_nil, mk] at this
  rw [← this]
  exact mk_fst d _ false
theorem bytesL_eM {a b c d : Int} (M : Mks a b c d) (ss : List ByteArray) : bytesL (eM a b c d ss) = (eU a b c d ss).map fun x => (x.toNat : Int) := by
  have := mk_eU M ss []
  simp only [List.append_nil, mk] at this
  rw [← this]
  exact mk_fst d _ false
theorem cut_tM {a b c d : Int} (M : Mks a b c d) (r : List ByteArray) : ∀ z, zz ((tM a b c d r).foldl (cutS c) z) = zz z ++ r.map fun p => (escU a b c d p.data.toList).map fun x => (x.toNat : Int) := by
  induction r with
  | nil => intro z; simp [tM]
  | cons p r ih =>
    intro z
    have e2 : tM a b c d (p :: r) = (mB c, false) :: (escM a b c d p.data.toList ++ tM a b c d r) := by simp [tM]
    rw [e2, List.foldl_cons, List.foldl_append]
    have e3 : cutS c z (mB c, false) = (z.1 ++ [z.2], []) := by
      unfold cutS
      rw [mB_mark M.hc]
      simp
    rw [e3, cut_free _ _ (escM_free M.hd (by simp [ownB]) M.cd _), ih, bytesL_escM M.hd]
    simp [zz]
theorem pieces_eU {a b c d : Int} (M : Mks a b c d) {s : ByteArray} {p : ByteArray} {r : List ByteArray} (hs : s.data.toList = eU a b c d (p :: r)) : piecesS d c s = (p :: r).map (escS a b c d) := by
  have hu : upto s d s.size = eM a b c d (p :: r) := by
    rw [upto_all, hs]
    have := mk_eU M (p :: r) []
    simpa [mk] using this
  have hz : zz (cutZ c (upto s d s.size)) = (p :: r).map fun p => (escU a b c d p.data.toList).map fun x => (x.toNat : Int) := by
    rw [hu]
    unfold cutZ
    simp only [eM]
    rw [List.foldl_append, cut_free _ _ (escM_free M.hd (by simp [ownB]) M.cd _), cut_tM M, bytesL_escM M.hd]
    simp [zz]
  unfold piecesS
  unfold zz at hz
  rw [hz, List.map_map]
  refine List.map_congr_left fun p _ => ?_
  simp only [Function.comp]
  rw [strOfNums_bytesOf, escS_eq M.hd]
theorem fault_escS {a b c d : Int} (hd : 33 ≤ d ∧ d ≤ 126) (t : ByteArray) : faultF a b c d (escS a b c d t) = -1 ∧ plainS d (escS a b c d t) = t := by
  have hu := escS_upto (a := a) (b := b) (c := c) hd t
  have hg := escM_good (a := a) (b := b) (c := c) hd t.data.toList
  constructor
  · unfold faultF
    rw [hu]
    have hx : (escM a b c d t.data.toList).findIdx? (badB a b c d) = none := by
      rw [List.findIdx?_eq_none_iff]
      intro x hx
      rw [hg x hx]
    rw [hx, wt_escM]
    rfl
  · unfold plainS
    rw [hu, plain_escM hd, strOfNums_self]
theorem elScan_esc {a b c d : Int} (hd : 33 ≤ d ∧ d ≤ 126) : ∀ (ss : List ByteArray) (y : Int) (acc : List ByteArray), (∀ t ∈ ss, partB t = true) → elScan a b c d (ss.map (escS a b c d)) y acc = .inr (acc ++ ss) := by
  intro ss
  induction ss with
  | nil => intro y acc _; simp [elScan]
  | cons t ts ih =>
    intro y acc h
    obtain ⟨h1, h2⟩ := fault_escS (a := a) (b := b) (c := c) hd t
    simp only [List.map_cons, elScan]
    rw [h1, h2, if_neg (by omega), if_pos (h t (by simp)), ih _ _ (fun x hx => h x (by simp [hx]))]
    simp
/-- A right element is read back from its text. -/
theorem elem_back {a b c d : Int} (M : Mks a b c d) {s : ByteArray} {ss : List ByteArray} (hs : s.data.toList = eU a b c d ss) (he : elB ss = true) : elemR a b c d s = .inr ss := by
  obtain ⟨h1, h4, hp⟩ := elB_facts he
  have hen : endsE ss = false := by
    unfold elB at he
    simp only [Bool.and_eq_true, Bool.not_eq_true'] at he
    exact he.2.2.1
  cases ss with
  | nil => simp at h1
  | cons p r =>
    unfold elemR
    rw [pieces_eU M hs, if_neg (by rw [List.length_map]; omega), elScan_esc M.hd _ _ _ (fun t ht => by
      obtain ⟨j, hj⟩ := List.getElem?_of_mem ht
      exact hp j t hj)]
    simp only [List.nil_append]
    rw [if_neg (by rw [hen]; simp)]
/-- Elements, each with El ahead. -/
def gU (a b c d : Int) (es : List (List ByteArray)) : List UInt8 := es.flatMap fun ss => mB b :: eU a b c d ss
def gM (a b c d : Int) (es : List (List ByteArray)) : List (UInt8 × Bool) := es.flatMap fun ss => (mB b, false) :: eM a b c d ss
theorem gU_cons (a b c d : Int) (ss : List ByteArray) (es : List (List ByteArray)) : gU a b c d (ss :: es) = mB b :: (eU a b c d ss ++ gU a b c d es) := by simp [gU]
theorem gM_cons (a b c d : Int) (ss : List ByteArray) (es : List (List ByteArray)) : gM a b c d (ss :: es) = (mB b, false) :: (eM a b c d ss ++ gM a b c d es) := by simp [gM]
theorem mk_gU {a b c d : Int} (M : Mks a b c d) (es : List (List ByteArray)) (m : List UInt8) : mk d false (gU a b c d es ++ m) = gM a b c d es ++ mk d false m := by
  induction es with
  | nil => simp [gU, gM]
  | cons ss es ih =>
    rw [gU_cons, gM_cons, List.cons_append, mk_mark M.hb M.bd, List.append_assoc, mk_eU M, ih]
    simp
theorem cut_gM {a b c d : Int} (M : Mks a b c d) (es : List (List ByteArray)) : ∀ z, zz ((gM a b c d es).foldl (cutS b) z) = zz z ++ es.map fun ss => (eU a b c d ss).map fun x => (x.toNat : Int) := by
  induction es with
  | nil => intro z; simp [gM]
  | cons ss es ih =>
    intro z
    rw [gM_cons, List.foldl_cons, List.foldl_append]
    have e3 : cutS b z (mB b, false) = (z.1 ++ [z.2], []) := by
      unfold cutS
      rw [mB_mark M.hb]
      simp
    rw [e3, cut_free _ _ (eM_free M (by simp [ownB]) M.bd M.bc _), ih, bytesL_eM M]
    simp [zz]
theorem gM_free {a b c d : Int} (M : Mks a b c d) (es : List (List ByteArray)) : ∀ t ∈ gM a b c d es, isBy a t = false := by
  intro t ht
  obtain ⟨ss, _, hp⟩ := List.mem_flatMap.1 ht
  rcases List.mem_cons.1 hp with rfl | hp
  · unfold isBy
    rw [mB_mark M.hb]
    simp
    exact fun e => M.ab e.symm
  · exact eM_free M (by simp [ownB]) M.ad M.ac ss t hp
/-- A tag's bytes are no marks. -/
def tgM (l : List UInt8) : List (UInt8 × Bool) := l.map fun x => (x, false)
theorem mk_tag {d : Int} : ∀ (l m : List UInt8), (∀ x ∈ l, (x.toNat : Int) ≠ d) → mk d false (l ++ m) = tgM l ++ mk d false m := by
  intro l
  induction l with
  | nil => intro m _; rfl
  | cons x t ih =>
    intro m h
    have h1 : ((x.toNat : Int) == d) = false := by rw [beq_eq_false_iff_ne]; exact h x (by simp)
    simp only [List.cons_append, mk, tgM, List.map_cons, h1, Bool.not_false, Bool.true_and]
    rw [ih m (fun y hy => h y (by simp [hy]))]
    rfl
theorem tag_bytes {tag : ByteArray} (h : tagB tag = true) : ∀ x ∈ tag.data.toList, 65 ≤ x.toNat ∧ x.toNat ≤ 90 := by
  intro x hx
  unfold tagB rngB at h
  simp only [Bool.and_eq_true, List.all_eq_true, decide_eq_true_eq] at h
  exact h.2 x hx
theorem mark_letter {c : Int} (h : markB c = true) : ¬ (65 ≤ c ∧ c ≤ 90) := by
  unfold markB at h
  simp only [decide_eq_true_eq] at h
  exact h.2.2.2.2.1
theorem right_marks {a b c d : Int} (h : rightB a b c d = true) : markB a = true ∧ markB b = true ∧ markB c = true ∧ markB d = true := by
  unfold rightB at h
  simp only [Bool.and_eq_true] at h
  exact ⟨h.1, h.2.1.1, h.2.2.1.1, h.2.2.2.1⟩
theorem tag_free {y : Int} {tag : ByteArray} (h : tagB tag = true) (hy : markB y = true) : (∀ x ∈ tag.data.toList, (x.toNat : Int) ≠ y) ∧ ∀ t ∈ tgM tag.data.toList, isBy y t = false := by
  have h1 : ∀ x ∈ tag.data.toList, (x.toNat : Int) ≠ y := fun x hx e => by
    have := tag_bytes h x hx
    exact mark_letter hy (by omega)
  refine ⟨h1, fun t ht => ?_⟩
  obtain ⟨x, hx, rfl⟩ := List.mem_map.1 ht
  simp [isBy, h1 x hx]
/-- The bytes as a text. -/
def asS (l : List UInt8) : ByteArray := ⟨l.toArray⟩
theorem asS_data (l : List UInt8) : (asS l).data.toList = l := rfl
theorem asS_self (s : ByteArray) : asS s.data.toList = s := by
  apply ByteArray.ext
  simp [asS]
theorem pieces_seg {a b c d : Int} (hr : rightB a b c d = true) {s tag : ByteArray} {es : List (List ByteArray)} (ht : tagB tag = true) (hs : s.data.toList = tag.data.toList ++ gU a b c d es) : piecesS d b s = tag :: es.map fun ss => asS (eU a b c d ss) := by
  have M := mks hr
  obtain ⟨ma, mb', mc, md⟩ := right_marks hr
  have hu : upto s d s.size = tgM tag.data.toList ++ gM a b c d es := by
    rw [upto_all, hs, mk_tag _ _ (tag_free ht md).1]
    have := mk_gU M es []
    simp only [List.append_nil, mk] at this
    rw [this]
  have hz : zz (cutZ b (upto s d s.size)) = (tag.data.toList.map fun x => (x.toNat : Int)) :: es.map fun ss => (eU a b c d ss).map fun x => (x.toNat : Int) := by
    rw [hu]
    unfold cutZ
    rw [List.foldl_append, cut_free _ _ (tag_free ht mb').2, cut_gM M]
    simp [zz, bytesL, tgM, Function.comp_def]
  unfold piecesS
  unfold zz at hz
  rw [hz, List.map_cons, strOfNums_self, List.map_map]
  congr 1
  refine List.map_congr_left fun ss _ => ?_
  simp only [Function.comp]
  rw [strOfNums_bytesOf]
  rfl
theorem sgScan_back {a b c d : Int} (M : Mks a b c d) : ∀ (es : List (List ByteArray)) (i : Nat) (y : Int) (acc : List (List ByteArray)), i + es.length ≤ 10 → (∀ ss ∈ es, elB ss = true) → sgScan a b c d (es.map fun ss => asS (eU a b c d ss)) i y acc = .inr (acc ++ es) := by
  intro es
  induction es with
  | nil => intro i y acc _ _; simp [sgScan]
  | cons ss es ih =>
    intro i y acc hl h
    simp only [List.length_cons] at hl
    simp only [List.map_cons, sgScan]
    rw [if_neg (by omega), elem_back M (asS_data _) (h ss (by simp))]
    simp only
    rw [ih _ _ _ (by omega) (fun x hx => h x (by simp [hx]))]
    simp
/-- A right segment is read back from its text without the mark at its end. -/
theorem seg_back {a b c d : Int} (hr : rightB a b c d = true) {s tag : ByteArray} {es : List (List ByteArray)} (hg : rightG tag es = true) (hs : s.data.toList = tag.data.toList ++ gU a b c d es) : segR a b c d s = .inr (tag, es) := by
  obtain ⟨_, h10, hel⟩ := rightG_facts hg
  have hb : tagB tag = true ∧ blankB es = false := by
    unfold rightG at hg
    simp only [Bool.and_eq_true, Bool.not_eq_true'] at hg
    exact ⟨hg.1, hg.2.2.1⟩
  unfold segR
  simp only
  rw [pieces_seg hr hb.1 hs]
  simp only [List.getElem?_cons_zero, Option.getD_some, List.drop_succ_cons, List.drop_zero]
  rw [if_pos hb.1, sgScan_back (mks hr) es 0 _ [] (by omega) (fun ss hss => by
    obtain ⟨j, hj⟩ := List.getElem?_of_mem hss
    exact hel j ss hj)]
  simp only [List.nil_append]
  rw [if_neg (by rw [hb.2]; simp)]
theorem iU_eU {a b c d : Int} (hd : 33 ≤ d ∧ d ≤ 126) (p : ByteArray) (r : List ByteArray) : ∀ k, k ≤ r.length → iU a b c d (p :: r) (k + 1) = mB b :: (escU a b c d p.data.toList ++ tU a b c d (r.take k)) := by
  intro k
  induction k with
  | zero => intro _; simp [iU, tU, escB_eq hd]
  | succ k ih =>
    intro hk
    have hlt : k < r.length := by omega
    have e : iU a b c d (p :: r) (k + 1 + 1) = iU a b c d (p :: r) (k + 1) ++ ((if k + 1 = 0 then mB b else mB c) :: escB a b c d ((p :: r)[k + 1]?.getD ⟨#[]⟩)) := rfl
    rw [e, ih (by omega), if_neg (by omega), List.getElem?_cons_succ, List.getElem?_eq_getElem hlt, Option.getD_some, escB_eq hd]
    unfold tU
    rw [List.take_succ_eq_append_getElem hlt, List.flatMap_append]
    simp only [List.flatMap_cons, List.flatMap_nil, List.append_nil, List.cons_append, List.append_assoc]
theorem segU_gU {a b c d : Int} (hd : 33 ≤ d ∧ d ≤ 126) (tag : ByteArray) (es : List (List ByteArray)) (h : ∀ ss ∈ es, 1 ≤ ss.length) : ∀ k, k ≤ es.length → segU a b c d tag es k = tag.data.toList ++ gU a b c d (es.take k) := by
  intro k
  induction k with
  | zero => intro _; simp [segU, gU]
  | succ k ih =>
    intro hk
    have hlt : k < es.length := by omega
    simp only [segU]
    rw [ih (by omega), List.getElem?_eq_getElem hlt, Option.getD_some, List.take_succ_eq_append_getElem hlt]
    have hne := h es[k] (List.getElem_mem hlt)
    generalize es[k] = ss at hne
    cases ss with
    | nil => simp at hne
    | cons p r =>
      rw [List.length_cons, iU_eU hd p r r.length (Nat.le_refl _), List.take_length]
      simp [gU, eU]
theorem text_bytes {a b c d : Int} (hr : rightB a b c d = true) {tag : ByteArray} {es : List (List ByteArray)} (hg : rightG tag es = true) : (textG a b c d tag es).data.toList = tag.data.toList ++ gU a b c d es ++ [mB a] := by
  obtain ⟨_, _, hel⟩ := rightG_facts hg
  rw [textG_yes hr hg]
  show textU a b c d tag es = _
  unfold textU
  rw [segU_gU (mks hr).hd tag es (fun ss hss => by
    obtain ⟨j, hj⟩ := List.getElem?_of_mem hss
    exact (elB_facts (hel j ss hj)).1) es.length (Nat.le_refl _), List.take_length]
theorem item_mem (s : ByteArray) (d : Int) {j k : Nat} (h : j < k) : item s d j ∈ upto s d k := List.mem_of_getElem? (upto_get s d k j h)
/-- What stands ahead of the first mark at a segment's end. -/
theorem take_back {a b c d : Int} (hr : rightB a b c d = true) {s tag : ByteArray} {es : List (List ByteArray)} {m : List UInt8} (ht : tagB tag = true) (hs : s.data.toList = tag.data.toList ++ gU a b c d es ++ mB a :: m) : takeR d a s = some (asS (tag.data.toList ++ gU a b c d es)) := by
  have M := mks hr
  obtain ⟨ma, _, _, md⟩ := right_marks hr
  obtain ⟨X, hX⟩ : ∃ X, X = tag.data.toList ++ gU a b c d es := ⟨_, rfl⟩
  rw [← hX] at hs ⊢
  have hsz : s.size = X.length + (m.length + 1) := by
    have : s.data.toList.length = s.size := by simp
    rw [← this, hs]
    simp
  have hk : X.length < s.size := by omega
  have hu : upto s d X.length = tgM tag.data.toList ++ gM a b c d es := by
    rw [(upto_take s d X.length (by omega)).1, hs, List.take_left' rfl, hX, mk_tag _ _ (tag_free ht md).1]
    have := mk_gU M es []
    simp only [List.append_nil, mk] at this
    rw [this]
  have hu1 : upto s d (X.length + 1) = upto s d X.length ++ [(mB a, false)] := by
    rw [(upto_take s d (X.length + 1) (by omega)).1, hs, hu]
    have e : (X ++ mB a :: m).take (X.length + 1) = X ++ [mB a] := by
      rw [List.take_append, List.take_of_length_le (by omega)]
      simp
    rw [e, hX, List.append_assoc, mk_tag _ _ (tag_free ht md).1, mk_gU M es, mk_mark M.ha M.ad]
    simp [mk]
  rw [upto_succ] at hu1
  have hit : item s d X.length = (mB a, false) := by
    have := List.append_cancel_left hu1
    simpa using this
  rw [take_at hk (fun j hj => by
    have hm := item_mem s d hj
    rw [hu] at hm
    rcases List.mem_append.1 hm with h | h
    · exact (tag_free ht ma).2 _ h
    · exact gM_free M es _ h) (by rw [hit]; simp [isBy, mB_mark M.ha])]
  congr 1
  apply ByteArray.ext
  apply Array.toList_inj.1
  rw [Lib.extract_data, hs]
  simp [asS]
/-- A right segment is read back from its text, whatever stands behind. -/
theorem rd_back {a b c d : Int} (hr : rightB a b c d = true) {s tag : ByteArray} {es : List (List ByteArray)} {m : List UInt8} (hg : rightG tag es = true) (hs : s.data.toList = (textG a b c d tag es).data.toList ++ m) : rdI a b c d s = (0, 0, ((textG a b c d tag es).size : Int), some (tag, es)) := by
  have ht : tagB tag = true := by
    unfold rightG at hg
    simp only [Bool.and_eq_true] at hg
    exact hg.1
  have hb := text_bytes hr hg
  rw [hb, List.append_assoc, List.singleton_append] at hs
  have hz : (textG a b c d tag es).size = (tag.data.toList ++ gU a b c d es).length + 1 := by
    have : (textG a b c d tag es).data.toList.length = (textG a b c d tag es).size := by simp
    rw [← this, hb]
    simp
    omega
  have hs0 : ¬ s.size = 0 := by
    have : s.data.toList.length = s.size := by simp
    rw [← this, hs]
    simp
  have hq : (asS (tag.data.toList ++ gU a b c d es)).size = (tag.data.toList ++ gU a b c d es).length := by
    have : (asS (tag.data.toList ++ gU a b c d es)).data.toList.length = (asS (tag.data.toList ++ gU a b c d es)).size := by simp
    rw [← this, asS_data]
  unfold rdI
  rw [if_neg hs0, take_back hr ht hs]
  simp only
  rw [seg_back hr hg (asS_data _)]
  simp only
  rw [hq, hz]
  simp
end Go.Proofs.Ytbdjaohfnbnacaa
