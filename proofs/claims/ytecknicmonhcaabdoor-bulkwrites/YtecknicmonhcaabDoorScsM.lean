/- scsi: the plain mathematics: commands, what a disk answers. No program is named here. -/
import Derived.Test.YtecknicmonhcaabDoorStrM
import Derived.Test.YtecknicmonhcaabDoorLaneM
namespace Go.Proofs.YtecknicmonhcaabDoor.scsi
open Go.RowKit Go.PlainAid Go.Proofs.YtecknicmonhcaabDoor.lane Go.Proofs.YtecknicmonhcaabDoor.pipe Go.Proofs.YtecknicmonhcaabDoor.strike
set_option linter.unusedVariables false

/-- a disk -/
structure Dk where
  b : List ByteArray
  s : Int
/-- numbers, the highest byte first -/
def be4 (n : Int) : List Int := [n / 16777216 % 256, n / 65536 % 256, n / 256 % 256, n % 256]
def be2 (n : Int) : List Int := [n / 256 % 256, n % 256]
def opB (op : Int) : Bool := op == 40 || op == 42 || op == 53
def mkB (op lba cnt : Int) : Bool := opB op && decide (0 ≤ lba ∧ lba ≤ 4294967295 ∧ 0 ≤ cnt ∧ cnt ≤ 65535)
def cmdL (op lba cnt : Int) : List Int := [op, 0] ++ be4 lba ++ [0] ++ be2 cnt ++ [0]
def mkC (op lba cnt : Int) : Int := if mkB op lba cnt = true then 0 else 1
def mkT (op lba cnt : Int) : ByteArray := if mkB op lba cnt = true then strOfNums (cmdL op lba cnt) else ⟨#[]⟩
def val4 (a b c d : Int) : Int := ((a * 256 + b) * 256 + c) * 256 + d
def lbaL (L : List Int) : Int := val4 (L.getD 2 0) (L.getD 3 0) (L.getD 4 0) (L.getD 5 0)
def cntL (L : List Int) : Int := L.getD 7 0 * 256 + L.getD 8 0
theorem op_iff (op : Int) : opB op = true ↔ op = 40 ∨ op = 42 ∨ op = 53 := by unfold opB; simp [Bool.or_eq_true, or_assoc]
theorem mk_iff (op lba cnt : Int) : mkB op lba cnt = true ↔ (op = 40 ∨ op = 42 ∨ op = 53) ∧ 0 ≤ lba ∧ lba ≤ 4294967295 ∧ 0 ≤ cnt ∧ cnt ≤ 65535 := by
  unfold mkB; rw [Bool.and_eq_true, op_iff, decide_eq_true_eq]
theorem cmd_byt {op lba cnt : Int} (h : mkB op lba cnt = true) : Byt (cmdL op lba cnt) := by
  have h := (mk_iff _ _ _).1 h
  intro x hx
  simp [cmdL, be4, be2] at hx
  omega
theorem cmd_lba {op lba cnt : Int} (h : mkB op lba cnt = true) : lbaL (cmdL op lba cnt) = lba := by
  have h := (mk_iff _ _ _).1 h
  simp [lbaL, val4, cmdL, be4, be2]
  omega
theorem cmd_cnt {op lba cnt : Int} (h : mkB op lba cnt = true) : cntL (cmdL op lba cnt) = cnt := by
  have h := (mk_iff _ _ _).1 h
  simp [cntL, cmdL, be4, be2]
  omega
theorem mk_nums {op lba cnt : Int} (h : mkB op lba cnt = true) : nums (mkT op lba cnt) = cmdL op lba cnt := by
  unfold mkT; rw [if_pos h, nums_str _ (cmd_byt h)]

/-- what the bytes of a command behind its first one are -/
def frm (op : Int) : List Int :=
  if op = 0 then [48, 48, 48, 48, 48] else if op = 3 ∨ op = 18 then [48, 48, 48, 78, 48] else if op = 26 then [48, 80, 48, 78, 48]
  else if op = 37 then [48, 48, 48, 48, 48, 48, 48, 48, 48] else if op = 40 ∨ op = 42 ∨ op = 53 then [48, 78, 78, 78, 78, 48, 78, 78, 48] else []
def okb (f b : Int) : Bool := !(f == 48 && b != 0) && !(f == 80 && b != 63)
def ok2 : List Int → List Int → Bool
  | f :: F, b :: R => okb f b && ok2 F R
  | _, _ => true
def fmC (L : List Int) : Int :=
  match L with
  | [] => 32
  | op :: r => if frm op = [] then 32 else if r.length ≠ (frm op).length then 36 else if ok2 (frm op) r = true then 0 else 36
/-- the Sense of a command, on n blocks, with z bytes of data -/
def snS (n : Nat) (L : List Int) (z : Nat) : Int :=
  if fmC L ≠ 0 then fmC L else if opB (L.getD 0 0) = true then (if (n : Int) < lbaL L + cntL L then 33 else if L.getD 0 0 = 42 ∧ (z : Int) ≠ 16 * cntL L then 36 else 0) else 0
def snB (s : Int) : Bool := s == 0 || s == 32 || s == 33 || s == 36
def chkC (d : Dk) : Int := if d.b.length < 1 ∨ 64 < d.b.length then 1 else if d.b.all (fun x => x.size == 16) = true ∧ snB d.s = true then 0 else 4
def senL (s : Int) : List Int := [112, 0, if s = 0 then 0 else 5, 0, 0, 0, 0, 10, 0, 0, 0, 0, s, 0, 0, 0, 0, 0]
def inqL : List Int := [0, 128, 4, 2, 31, 0, 0, 0, 112, 108, 117, 103, 116, 114, 101, 101, 100, 105, 115, 107, 32, 32, 32, 32, 32, 32, 32, 32, 32, 32, 32, 32, 49, 32, 32, 32]
def modL : List Int := [3, 0, 0, 0]
/-- what a command that is done answers -/
def ansT (d : Dk) (L : List Int) : ByteArray :=
  if L.getD 0 0 = 3 then strOfNums ((senL d.s).take (L.getD 4 0).toNat)
  else if L.getD 0 0 = 18 then strOfNums (inqL.take (L.getD 4 0).toNat)
  else if L.getD 0 0 = 26 then strOfNums (modL.take (L.getD 4 0).toNat)
  else if L.getD 0 0 = 37 then strOfNums (be4 ((d.b.length : Int) - 1) ++ be4 16)
  else if L.getD 0 0 = 40 then cat ((d.b.drop (lbaL L).toNat).take (cntL L).toNat)
  else ⟨#[]⟩
def cut16 (k : Nat) (t : ByteArray) : List ByteArray := (List.range k).map fun i => t.extract (i * 16) ((i + 1) * 16)
def wrB (b : List ByteArray) (i n : Nat) (x : ByteArray) : List ByteArray := b.take i ++ cut16 n x ++ b.drop (i + n)
def newB (b : List ByteArray) (L : List Int) (x : ByteArray) : List ByteArray := if L.getD 0 0 = 42 then wrB b (lbaL L).toNat (cntL L).toNat x else b
/-- what Do answers -/
def doD (d : Dk) (c x : ByteArray) : Dk := if chkC d ≠ 0 then d else if snS d.b.length (nums c) x.size ≠ 0 then ⟨d.b, snS d.b.length (nums c) x.size⟩ else ⟨newB d.b (nums c) x, 0⟩
def doT (d : Dk) (c x : ByteArray) : ByteArray := if chkC d ≠ 0 then ⟨#[]⟩ else if snS d.b.length (nums c) x.size ≠ 0 then ⟨#[]⟩ else ansT d (nums c)
def doC (d : Dk) (c x : ByteArray) : Int := if chkC d ≠ 0 then chkC d else if snS d.b.length (nums c) x.size ≠ 0 then 14 else 0
theorem chk_iff (d : Dk) : chkC d = 0 ↔ 1 ≤ d.b.length ∧ d.b.length ≤ 64 ∧ (∀ x ∈ d.b, x.size = 16) ∧ (d.s = 0 ∨ d.s = 32 ∨ d.s = 33 ∨ d.s = 36) := by
  have e : (d.b.all fun x => x.size == 16) = true ↔ ∀ x ∈ d.b, x.size = 16 := by simp [List.all_eq_true]
  have e2 : snB d.s = true ↔ (d.s = 0 ∨ d.s = 32 ∨ d.s = 33 ∨ d.s = 36) := by unfold snB; simp [Bool.or_eq_true, or_assoc]
  unfold chkC
  split
  · constructor
    · intro h; cases h
    · intro h; omega
  · split
    · rename_i h; exact ⟨fun _ => ⟨by omega, by omega, e.1 h.1, e2.1 h.2⟩, fun _ => rfl⟩
    · rename_i h; exact ⟨fun q => absurd q (by decide), fun q => absurd ⟨e.2 q.2.2.1, e2.2 q.2.2.2⟩ h⟩
theorem chk_code (d : Dk) (h : chkC d ≠ 0) : chkC d = 1 ∨ chkC d = 4 := by
  unfold chkC at *
  split
  · exact .inl rfl
  · split
    · rename_i h1 h2; rw [if_neg h1, if_pos h2] at h; exact absurd rfl h
    · exact .inr rfl
theorem fm_code (L : List Int) : fmC L = 0 ∨ fmC L = 32 ∨ fmC L = 36 := by
  unfold fmC
  split
  · exact .inr (.inl rfl)
  · split
    · exact .inr (.inl rfl)
    · split
      · exact .inr (.inr rfl)
      · split
        · exact .inl rfl
        · exact .inr (.inr rfl)
theorem sn_code (n : Nat) (L : List Int) (z : Nat) : snS n L z = 0 ∨ snS n L z = 32 ∨ snS n L z = 33 ∨ snS n L z = 36 := by
  have := fm_code L
  unfold snS
  split
  · omega
  · split
    · split
      · omega
      · split <;> omega
    · omega
theorem cut_length (k : Nat) (t : ByteArray) : (cut16 k t).length = k := by simp [cut16]
theorem cut_at {k : Nat} {t : ByteArray} {i : Nat} (h : i < k) : (cut16 k t)[i]? = some (t.extract (i * 16) ((i + 1) * 16)) := by simp [cut16, h]
theorem cut_size {k : Nat} {t : ByteArray} (h : t.size = 16 * k) : ∀ x ∈ cut16 k t, x.size = 16 := by
  intro x hx
  simp only [cut16, List.mem_map, List.mem_range] at hx
  obtain ⟨i, hi, rfl⟩ := hx
  rw [ByteArray.size_extract]; omega
theorem cut_succ (k : Nat) (t : ByteArray) : cut16 (k + 1) t = cut16 k t ++ [t.extract (k * 16) ((k + 1) * 16)] := by
  unfold cut16; rw [List.range_succ, List.map_append]; rfl
theorem cat_cut (t : ByteArray) : ∀ k, 16 * k ≤ t.size → (cat (cut16 k t)).data.toList = t.data.toList.take (16 * k) := by
  intro k
  induction k with
  | zero => intro _; simp [cut16, cat]
  | succ k ih =>
    intro h
    rw [cut_succ, cat_append, ih (by omega), cat_one, ex_list, show (k + 1) * 16 - k * 16 = 16 by omega, show 16 * (k + 1) = 16 * k + 16 by omega, List.take_add, show k * 16 = 16 * k by omega]
theorem cat_whole {t : ByteArray} {k : Nat} (h : t.size = 16 * k) : cat (cut16 k t) = t := by
  apply ext_list
  rw [cat_cut t k (by omega), List.take_of_length_le (by rw [← size_list]; omega)]
theorem cat_drop : ∀ (l : List ByteArray) (i : Nat), (∀ x ∈ l, x.size = 16) → (cat l).data.toList.drop (16 * i) = (cat (l.drop i)).data.toList := by
  intro l
  induction l with
  | nil => intro i _; simp [cat]
  | cons x r ih =>
    intro i h
    cases i with
    | zero => simp
    | succ i =>
      have hx : x.data.toList.length = 16 := by rw [← size_list]; exact h x (List.mem_cons_self ..)
      rw [cat_cons, List.drop_append, List.drop_eq_nil_of_le (by omega), List.nil_append, hx, show 16 * (i + 1) - 16 = 16 * i by omega, ih i fun y hy => h y (List.mem_cons_of_mem _ hy)]
      rfl
theorem cat_take16 : ∀ (l : List ByteArray) (i : Nat), (∀ x ∈ l, x.size = 16) → (cat l).data.toList.take (16 * i) = (cat (l.take i)).data.toList := by
  intro l
  induction l with
  | nil => intro i _; simp [cat]
  | cons x r ih =>
    intro i h
    cases i with
    | zero => simp [cat]
    | succ i =>
      have hx : x.data.toList.length = 16 := by rw [← size_list]; exact h x (List.mem_cons_self ..)
      rw [cat_cons, List.take_append, List.take_of_length_le (by omega), hx, show 16 * (i + 1) - 16 = 16 * i by omega, ih i fun y hy => h y (List.mem_cons_of_mem _ hy), List.take_succ_cons, cat_cons]
theorem size16 : ∀ (l : List ByteArray), (∀ x ∈ l, x.size = 16) → (cat l).size = 16 * l.length := by
  intro l
  induction l with
  | nil => intro _; rfl
  | cons x r ih =>
    intro h
    have h0 := h x (List.mem_cons_self ..)
    have h1 := ih fun y hy => h y (List.mem_cons_of_mem _ hy)
    rw [cat_size] at h1 ⊢
    rw [sizes_cons, List.length_cons]
    omega
/-- the part of all, as one text -/
theorem cat_part (l : List ByteArray) (h : ∀ x ∈ l, x.size = 16) (i n : Nat) : (cat l).extract (16 * i) (16 * (i + n)) = cat ((l.drop i).take n) := by
  apply ext_list
  rw [ex_list, cat_drop l i h, show 16 * (i + n) - 16 * i = 16 * n by omega, cat_take16 _ n fun x hx => h x (List.mem_of_mem_drop hx)]
theorem cut_of : ∀ (l : List ByteArray), (∀ x ∈ l, x.size = 16) → cut16 l.length (cat l) = l := by
  intro l h
  apply List.ext_getElem?
  intro i
  by_cases hi : i < l.length
  · rw [cut_at hi, List.getElem?_eq_getElem hi]
    congr 1
    have := cat_part l h i 1
    rw [show i * 16 = 16 * i by omega, show (i + 1) * 16 = 16 * (i + 1) by omega, this, List.drop_eq_getElem_cons hi, List.take_succ_cons, List.take_zero, cat_one]
  · rw [List.getElem?_eq_none (by rw [cut_length]; omega), List.getElem?_eq_none (by omega)]
theorem wr_length {b : List ByteArray} {i n : Nat} {x : ByteArray} (h : i + n ≤ b.length) : (wrB b i n x).length = b.length := by
  unfold wrB; rw [List.length_append, List.length_append, cut_length, List.length_take, List.length_drop]; omega
theorem wr_size {b : List ByteArray} {i n : Nat} {x : ByteArray} (hb : ∀ y ∈ b, y.size = 16) (hx : x.size = 16 * n) : ∀ y ∈ wrB b i n x, y.size = 16 := by
  intro y hy
  unfold wrB at hy
  rw [List.mem_append, List.mem_append] at hy
  rcases hy with (hy | hy) | hy
  · exact hb y (List.mem_of_mem_take hy)
  · exact cut_size hx y hy
  · exact hb y (List.mem_of_mem_drop hy)
theorem wr_cat {b : List ByteArray} {i n : Nat} {x : ByteArray} (hb : ∀ y ∈ b, y.size = 16) (hx : x.size = 16 * n) :
    (cat (wrB b i n x)).data.toList = (cat b).data.toList.take (16 * i) ++ x.data.toList ++ (cat b).data.toList.drop (16 * (i + n)) := by
  unfold wrB
  rw [cat_append, cat_append, cat_whole hx, cat_take16 b i hb, cat_drop b _ hb]
/-- what is there behind a write -/
theorem wr_at {b : List ByteArray} {i n : Nat} {x : ByteArray} (h : i + n ≤ b.length) (k : Nat) : (wrB b i n x)[k]? = if i ≤ k ∧ k < i + n then (cut16 n x)[k - i]? else b[k]? := by
  unfold wrB
  have hl : (b.take i).length = i := by rw [List.length_take]; omega
  rw [List.append_assoc, List.getElem?_append, hl]
  split
  · rw [if_neg (by omega), List.getElem?_take, if_pos (by omega)]
  · rw [List.getElem?_append, cut_length]
    split
    · rw [if_pos (by omega)]
    · rw [if_neg (by omega), List.getElem?_drop]
      congr 1; omega
theorem wr_read {b : List ByteArray} {i n : Nat} {x : ByteArray} (h : i + n ≤ b.length) (hx : x.size = 16 * n) : cat (((wrB b i n x).drop i).take n) = x := by
  have e : ((wrB b i n x).drop i).take n = cut16 n x := by
    apply List.ext_getElem?
    intro k
    rw [List.getElem?_take]
    split
    · rw [List.getElem?_drop, wr_at h, if_pos (by omega)]
      congr 1; omega
    · rw [List.getElem?_eq_none (by rw [cut_length]; omega)]
  rw [e, cat_whole hx]
theorem wr_comm {b : List ByteArray} {i n j m : Nat} {x y : ByteArray} (h1 : i + n ≤ b.length) (h2 : j + m ≤ b.length) (h : j + m ≤ i ∨ i + n ≤ j) :
    wrB (wrB b i n x) j m y = wrB (wrB b j m y) i n x := by
  apply List.ext_getElem?
  intro k
  rw [wr_at (by rw [wr_length h1]; exact h2), wr_at h1, wr_at (by rw [wr_length h2]; exact h1), wr_at h2]
  by_cases q1 : j ≤ k ∧ k < j + m
  · rw [if_pos q1, if_neg (by omega), if_pos q1]
  · rw [if_neg q1, if_neg q1]
theorem cut_take {t : ByteArray} {n m k : Nat} (h : t.size = 16 * (n + m)) (hk : k < n) : (cut16 n (t.extract 0 (16 * n)))[k]? = (cut16 (n + m) t)[k]? := by
  rw [cut_at hk, cut_at (by omega)]
  refine congrArg some (ext_list ?_)
  rw [ex_list, ex_list, ex_list, List.drop_zero, List.drop_take, List.take_take]
  rw [show min ((k + 1) * 16 - k * 16) (16 * n - 0 - k * 16) = (k + 1) * 16 - k * 16 by omega]
theorem cut_drop {t : ByteArray} {n m k : Nat} (h : t.size = 16 * (n + m)) (hk : k < m) : (cut16 m (t.extract (16 * n) t.size))[k]? = (cut16 (n + m) t)[n + k]? := by
  rw [cut_at (k := m) hk, cut_at (k := n + m) (i := n + k) (by omega)]
  refine congrArg some (ext_list ?_)
  rw [ex_list, ex_list, ex_list, List.drop_take, List.drop_drop, List.take_take]
  rw [show 16 * n + k * 16 = (n + k) * 16 by omega, show min ((k + 1) * 16 - k * 16) (t.size - 16 * n - k * 16) = (n + k + 1) * 16 - (n + k) * 16 by omega]
/-- two writes, one behind the other, are one -/
theorem wr_parts {b : List ByteArray} {i n m : Nat} {t : ByteArray} (h : i + n + m ≤ b.length) (ht : t.size = 16 * (n + m)) :
    wrB (wrB b i n (t.extract 0 (16 * n))) (i + n) m (t.extract (16 * n) t.size) = wrB b i (n + m) t := by
  apply List.ext_getElem?
  intro k
  rw [wr_at (by rw [wr_length (by omega)]; exact h), wr_at (by omega), wr_at (by omega)]
  by_cases q1 : i + n ≤ k ∧ k < i + n + m
  · rw [if_pos q1, if_pos (by omega), cut_drop ht (by omega)]
    congr 1; omega
  · rw [if_neg q1]
    by_cases q2 : i ≤ k ∧ k < i + n
    · rw [if_pos q2, if_pos (by omega), cut_take ht (by omega)]
    · rw [if_neg q2, if_neg (by omega)]
theorem read_parts (b : List ByteArray) (i n m : Nat) : (cat ((b.drop i).take (n + m))).data.toList = (cat ((b.drop i).take n)).data.toList ++ (cat ((b.drop (i + n)).take m)).data.toList := by
  rw [← cat_append, List.take_add, List.drop_drop]
end Go.Proofs.YtecknicmonhcaabDoor.scsi
