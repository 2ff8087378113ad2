/- plugref's utf: what narrowRune and TwoBytes answer. -/
import Derived.Test.YtebaepkghbihkaaZAb
import Derived.OwnWalk
import Derived.Deep.RegionHeld3
import Derived.Deep.AppendLies
import Derived.Test.YtebaepkghbihkaaZAc
namespace Go.Proofs.Ytebaepkghbihkaa.utf
open Go.RowKit Go.PlainAid Go.Lib Go.Proofs.Ytebaepkghbihkaa.lane

/-- a row of n bytes of the call's own, in block B -/
def Rw (w : World) (B n : Nat) (l : List Int) : Prop := w.ownsRow B 5 1 (.slice (some ⟨B, 0, none⟩) n n) n (l.map (Value.int .u8))
theorem Rw.len {w : World} {B n : Nat} {l : List Int} (h : Rw w B n l) : l.length = n := by have := h.1; simpa using this
theorem Rw.free {w : World} {B n : Nat} {l : List Int} (h : Rw w B n l) (k : Nat) : w.frozen? ⟨B, k, none⟩ = false := World.ownsRow.frozenAt h k
theorem Rw.cell {w : World} {B n : Nat} {l : List Int} (h : Rw w B n l) (k : Nat) (hk : k < n) : w.cell? ⟨B, k, none⟩ = some (.int .u8 (l.getD k 0)) := by
  have hl := h.len
  rw [World.ownsRow.cellAt h k (by omega)]
  simp [List.getD, List.getElem?_eq_getElem (show k < l.length by omega)]
theorem Rw.set {w : World} {B n : Nat} {l : List Int} (h : Rw w B n l) (k : Nat) (v : Int) : Rw (w.setCell ⟨B, k, none⟩ (.int .u8 v)) B n (l.set k v) := by
  have := (World.ownsRow.stored h k (.int .u8 v)).1
  unfold Rw
  rw [List.map_set]
  exact this
theorem Rw.made {w : World} {B n : Nat} (h : w.ownsRow B 5 1 (.slice (some ⟨B, 0, none⟩) n n) n (madeCells (Value.int .u8 0).cells (n * 1)).toList) : Rw w B n (List.replicate n 0) := by
  have e : (madeCells (Value.int .u8 0).cells (n * 1)).toList = (List.replicate n (0 : Int)).map (Value.int .u8) := by
    rw [Nat.mul_one]
    have := toList_madeCells_one (Value.int .u8 0) n
    rw [List.map_replicate]
    exact this
  rw [e] at h
  exact h
theorem Rw.conv {w : World} {B n : Nat} {l : List Int} (h : Rw w B n l) :
    (convert 56 9 (.slice (some ⟨B, 0, none⟩) n n)).run Try.prog w = .ok (.string (strOfNums l)) w := by
  refine run_convert_bytes_arg w 56 5 Try.underlying56 Try.underlying5 B 0 n n l h.len ?_ 9 Try.underlying9
  intro i hi
  have hl := h.len
  rw [Nat.zero_add]
  exact h.cell i (by omega)

theorem two_conv (x y : Int) (w : World) : (convert 56 9 (.slice (some ⟨w.heap.size, 0, none⟩) 2 2)).run Try.prog (w.alloc (.cells #[.int .u8 x, .int .u8 y] 5)) = .ok (.string (strOfNums [x, y])) (w.alloc (.cells #[.int .u8 x, .int .u8 y] 5)) := by
  refine run_convert_bytes_arg _ 56 5 Try.underlying56 Try.underlying5 w.heap.size 0 2 2 [x, y] rfl ?_ 9 Try.underlying9
  intro i hi
  match i, hi with
  | 0, _ => simp
  | 1, _ => simp
theorem twoBytes_any (n : Int) (h0 : 0 ≤ n) (h1 : n ≤ 65535) (w : World) :
    Calls Try.prog 56 #[.int .i64 n] w fun e w' => e = .returned (.string (strOfNums [n % 256, n / 256])) ∧ Below w.heap.size w w' := by
  have hc := two_conv (n % 256) (n / 256) w
  have he : n / 256 % 256 = n / 256 := by omega
  go_enter Try.func56, Try.ntmps56
  go_wp2
  go_ret
  exact ⟨rfl, (Below.refl _ _).alloc (Nat.le_refl _) _⟩
end Go.Proofs.Ytebaepkghbihkaa.utf

/- plugref's utf: rows of integers; what Narrow answers. -/
namespace Go.Proofs.Ytebaepkghbihkaa.utf
set_option maxRecDepth 100000
open Go.RowKit Go.PlainAid Go.Lib Go.Proofs.Ytebaepkghbihkaa.lane

theorem infoI : (Try.prog.info? 3).map (fun i => (i.zero, i.size, i.bytes)) = some (some (.int .i64 0), 1, 8) := by kernel_rfl
/-- the value v owns the integers us, in a block from B on -/
def Ins (w : World) (B : Nat) (v : Value) (us : List Int) : Prop := w.ownsRow B 3 1 v us.length (us.map (Value.int .i64))
theorem Ins.nil (w : World) (B : Nat) : Ins w B (.slice none 0 0) [] := ⟨rfl, .inl ⟨rfl, rfl⟩⟩
theorem Ins.block {w : World} {B : Nat} {v : Value} {us : List Int} (h : Ins w B v us) : ∀ k, v.ownBlock = some k → B ≤ k := by
  intro k hk
  rcases h.2 with ⟨rfl, h0⟩ | ⟨g, cap, cur, rfl, hb, _⟩
  · cases hk
  · simp [Value.ownBlock] at hk; omega
theorem Ins.push {w1 : World} {B g cap : Nat} {us : List Int} {x : Int}
    (h : w1.ownsRow B 3 1 (.slice (some ⟨g, 0, none⟩) (us.length + 1) cap) (us.length + 1) (us.map (Value.int .i64) ++ [.int .i64 x])) :
    Ins w1 B (.slice (some ⟨g, 0, none⟩) (us.length + 1) cap) (us ++ [x]) := by
  unfold Ins
  simpa using h
/-- a slice that reads as the integers us -/
def Rd (w : World) (v : Value) (us : List Int) : Prop := ∃ a c, v = .slice a us.length c ∧ us.length ≤ c ∧ (us ≠ [] → ∃ g off, a = some ⟨g, off, none⟩ ∧ g < w.heap.size ∧ ∀ j x, us[j]? = some x → w.cell? ⟨g, off + j, none⟩ = some (.int .i64 x))
theorem Ins.rd {w : World} {B : Nat} {v : Value} {us : List Int} (h : Ins w B v us) : Rd w v us := by
  have h' := h
  rcases h.2 with ⟨rfl, h0⟩ | ⟨g, cap, cur, rfl, hB, hg, hnc, hcm, hs, ht⟩
  · exact ⟨none, 0, by rw [h0], by omega, fun hne => absurd (List.eq_nil_of_length_eq_zero h0) hne⟩
  · refine ⟨_, cap, rfl, hnc, fun _ => ⟨g, 0, rfl, ?_, ?_⟩⟩
    · rcases Nat.lt_or_ge g w.heap.size with hl | hl
      · exact hl
      · rw [Array.getElem?_eq_none hl] at hg; cases hg
    · intro j x hx
      have hj := (List.getElem?_eq_some_iff.1 hx).1
      rw [Nat.zero_add, World.ownsRow.cellAt h' j (by omega)]
      simp [hx]
theorem Rd.keep {w w' : World} {v : Value} {us : List Int} (h : Rd w v us) (hb : Below w.heap.size w w') : Rd w' v us := by
  obtain ⟨a, c, hv, h1, h3⟩ := h
  refine ⟨a, c, hv, h1, fun hne => ?_⟩
  obtain ⟨g, off, ha, hg, hc⟩ := h3 hne
  exact ⟨g, off, ha, by have := hb.size; omega, fun j x hx => (hb.cell (p := ⟨g, off + j, none⟩) hg).trans (hc j x hx)⟩
theorem Rd.tail {w : World} {g off c : Nat} {u : Int} {us : List Int} (h1 : us.length + 1 ≤ c) (hg : g < w.heap.size)
    (hc : ∀ j x, (u :: us)[j]? = some x → w.cell? ⟨g, off + j, none⟩ = some (.int .i64 x)) : Rd w (.slice (some ⟨g, off + 1, none⟩) us.length (c - 1)) us := by
  refine ⟨_, c - 1, rfl, by omega, fun _ => ⟨g, off + 1, rfl, hg, fun j x hx => ?_⟩⟩
  have := hc (j + 1) x (by simpa using hx)
  rw [show off + 1 + j = off + (j + 1) by omega]; exact this
theorem Rd.nil (w : World) (a : Option Addr) (c : Nat) : Rd w (.slice a 0 c) [] := ⟨a, c, rfl, Nat.zero_le _, fun h => absurd rfl h⟩
theorem Rd.zero {us : List Int} (w : World) (a : Option Addr) (c : Nat) (h : us.length = 0) : Rd w (.slice a us.length c) us := ⟨a, c, rfl, by omega, fun hn => absurd (List.eq_nil_of_length_eq_zero h) hn⟩
def lnOf : Value → Nat
  | .slice _ n _ => n
  | _ => 0

theorem q54 (u : Int) (h0 : 0 ≤ u) : (u / 1024 == 54) = decide (55296 ≤ u ∧ u ≤ 56319) := by
  rw [Bool.eq_iff_iff, beq_iff_eq, decide_eq_true_eq]; omega
theorem q55 (u : Int) (h0 : 0 ≤ u) : (u / 1024 == 55) = decide (56320 ≤ u ∧ u ≤ 57343) := by
  rw [Bool.eq_iff_iff, beq_iff_eq, decide_eq_true_eq]; omega
theorem q27 (u : Int) (h0 : 0 ≤ u) : (u / 2048 == 27) = decide (55296 ≤ u ∧ u ≤ 57343) := by
  rw [Bool.eq_iff_iff, beq_iff_eq, decide_eq_true_eq]; omega

theorem nstep {acc X : ByteArray} {V vs : List Int} {c : Int} (h : acc ++ strOfNums (encs (pairL V)) = X) (hp : pairL V = c :: pairL vs) : (acc ++ strOfNums (encodeRuneZ c)) ++ strOfNums (encs (pairL vs)) = X := by
  rw [hp, encs_cons, str_append, ← ByteArray.append_assoc] at h; exact h
theorem lone_ok {u : Int} (h0 : 0 ≤ u) (h1 : u ≤ 65535) : okR (loneU u) := by unfold loneU okR; split <;> omega
theorem pair_ok {u v : Int} (h : isPair u v) : okR (pairR u v) := by unfold isPair at h; unfold pairR okR; omega
theorem pairR_mod {u v : Int} (h : isPair u v) : 65536 + u % 1024 * 1024 + v % 1024 = pairR u v := by unfold isPair at h; unfold pairR; omega
theorem str_four (c : Int) : (strOfNums (encodeRuneZ c)).size ≤ 4 := by rw [str_size]; exact (encodeRuneZ_length c).2

end Go.Proofs.Ytebaepkghbihkaa.utf

/- plugref's utf: what runeAt answers. -/
namespace Go.Proofs.Ytebaepkghbihkaa.utf
set_option maxRecDepth 100000
open Go.RowKit Go.PlainAid Go.Lib Go.Proofs.Ytebaepkghbihkaa.lane

/-- m bytes that go on, from place p on -/
def contF (s : ByteArray) : Nat → Nat → Int → Option Int
  | _, 0, b => some b
  | p, m + 1, b => if p < s.size ∧ bt s p / 64 = 2 then contF s (p + 1) m (64 * b + bt s p % 64) else none
abbrev badR (least c : Int) : Prop := c < least ∨ c > 1114111 ∨ (55296 ≤ c ∧ c < 57344)
def ansR (n : Nat) (least : Int) : Option Int → Int × Int
  | none => (65533, 1)
  | some c => if badR least c then (65533, 1) else (c, (n : Int) + 1)

theorem get_bt_at (s : ByteArray) (i : Nat) : ((s.get! i).toNat : Int) = bt s i := by
  unfold bt
  split
  · rename_i h
    rw [show s.get! i = s[i]'h from get_at s i h]
  · rename_i h
    have : s.get! i = 0 := by
      cases s with
      | mk d => show d[i]! = 0; rw [getElem!_neg d i h]; rfl
    rw [this]; rfl
theorem ref_two (s : ByteArray) (p : Nat) (h0 : 192 ≤ bt s p) (h1 : bt s p < 224) : ansR 1 128 (contF s (p + 1) 1 (bt s p - 192)) = (((Utf8.decode s p).1 : Int), ((Utf8.decode s p).2 : Int)) := by
  have e0 := get_bt_at s p
  have e1 := get_bt_at s (p + 1)
  rw [decode_at]
  generalize (s.get! p).toNat = x0 at *
  generalize (s.get! (p + 1)).toNat = x1 at *
  generalize (s.get! (p + 2)).toNat = x2 at *
  generalize (s.get! (p + 3)).toNat = x3 at *
  rw [← e0] at h0 h1
  unfold decodeN
  rw [if_neg (by omega)]
  simp only [contF, ← e0, ← e1]
  by_cases c1 : p + 1 < s.size ∧ (x1 : Int) / 64 = 2
  · rw [if_pos c1, if_pos (by omega)]
    simp only [ansR]
    by_cases hb : badR 128 (64 * ((x0 : Int) - 192) + (x1 : Int) % 64)
    · rw [if_pos hb]; unfold badR at hb; rw [if_neg (by omega)]; rfl
    · rw [if_neg hb]; unfold badR at hb; rw [if_pos (by omega)]; apply Prod.ext <;> simp only <;> omega
  · rw [if_neg c1, if_neg (by omega), if_neg (by omega), if_neg (by omega)]
    rfl
theorem ref_three (s : ByteArray) (p : Nat) (h0 : 224 ≤ bt s p) (h1 : bt s p < 240) : ansR 2 2048 (contF s (p + 1) 2 (bt s p - 224)) = (((Utf8.decode s p).1 : Int), ((Utf8.decode s p).2 : Int)) := by
  have e0 := get_bt_at s p
  have e1 := get_bt_at s (p + 1)
  have e2 := get_bt_at s (p + 2)
  rw [decode_at]
  generalize (s.get! p).toNat = x0 at *
  generalize (s.get! (p + 1)).toNat = x1 at *
  generalize (s.get! (p + 2)).toNat = x2 at *
  generalize (s.get! (p + 3)).toNat = x3 at *
  rw [← e0] at h0 h1
  unfold decodeN
  rw [if_neg (by omega), if_neg (by omega)]
  simp only [contF, Nat.add_assoc, Nat.reduceAdd, ← e0, ← e1, ← e2]
  by_cases c1 : p + 1 < s.size ∧ (x1 : Int) / 64 = 2
  · rw [if_pos c1]
    by_cases c2 : p + 2 < s.size ∧ (x2 : Int) / 64 = 2
    · rw [if_pos c2, if_pos (by omega)]
      simp only [ansR]
      by_cases hb : badR 2048 (64 * (64 * ((x0 : Int) - 224) + (x1 : Int) % 64) + (x2 : Int) % 64)
      · rw [if_pos hb]; unfold badR at hb; rw [if_neg (by omega)]; rfl
      · rw [if_neg hb]; unfold badR at hb; rw [if_pos (by omega)]; apply Prod.ext <;> simp only <;> omega
    · rw [if_neg c2, if_neg (by omega), if_neg (by omega)]
      rfl
  · rw [if_neg c1, if_neg (by omega), if_neg (by omega)]
    rfl
theorem ref_four (s : ByteArray) (p : Nat) (h0 : 240 ≤ bt s p) (h1 : bt s p < 248) : ansR 3 65536 (contF s (p + 1) 3 (bt s p - 240)) = (((Utf8.decode s p).1 : Int), ((Utf8.decode s p).2 : Int)) := by
  have e0 := get_bt_at s p
  have e1 := get_bt_at s (p + 1)
  have e2 := get_bt_at s (p + 2)
  have e3 := get_bt_at s (p + 3)
  rw [decode_at]
  generalize (s.get! p).toNat = x0 at *
  generalize (s.get! (p + 1)).toNat = x1 at *
  generalize (s.get! (p + 2)).toNat = x2 at *
  generalize (s.get! (p + 3)).toNat = x3 at *
  rw [← e0] at h0 h1
  unfold decodeN
  rw [if_neg (by omega), if_neg (by omega), if_neg (by omega)]
  simp only [contF, Nat.add_assoc, Nat.reduceAdd, ← e0, ← e1, ← e2, ← e3]
  by_cases c1 : p + 1 < s.size ∧ (x1 : Int) / 64 = 2
  · rw [if_pos c1]
    by_cases c2 : p + 2 < s.size ∧ (x2 : Int) / 64 = 2
    · rw [if_pos c2]
      by_cases c3 : p + 3 < s.size ∧ (x3 : Int) / 64 = 2
      · rw [if_pos c3, if_pos (by omega)]
        simp only [ansR]
        by_cases hb : badR 65536 (64 * (64 * (64 * ((x0 : Int) - 240) + (x1 : Int) % 64) + (x2 : Int) % 64) + (x3 : Int) % 64)
        · rw [if_pos hb]; unfold badR at hb; rw [if_neg (by omega)]; rfl
        · rw [if_neg hb]; unfold badR at hb; rw [if_pos (by omega)]; apply Prod.ext <;> simp only <;> omega
      · rw [if_neg c3, if_neg (by omega)]
        rfl
    · rw [if_neg c2, if_neg (by omega)]
      rfl
  · rw [if_neg c1, if_neg (by omega)]
    rfl
theorem ref_one (s : ByteArray) (p : Nat) (h1 : bt s p < 128) : Utf8.decode s p = ((bt s p).toNat, 1) := by
  have e0 := get_bt_at s p
  rw [decode_at]
  unfold decodeN
  rw [← e0] at h1 ⊢
  rw [if_pos (by omega)]
  simp
theorem ref_none (s : ByteArray) (p : Nat) (h1 : 128 ≤ bt s p) (h2 : bt s p < 192 ∨ 248 ≤ bt s p) : Utf8.decode s p = (65533, 1) := by
  have e0 := get_bt_at s p
  rw [decode_at]
  have := bt_le s p
  exact decodeN_bad _ _ _ _ _ (by omega)
end Go.Proofs.Ytebaepkghbihkaa.utf

/- plugref's utf: runeAt, walked. -/
namespace Go.Proofs.Ytebaepkghbihkaa.utf
set_option maxRecDepth 100000
open Go.RowKit Go.PlainAid Go.Lib Go.Proofs.Ytebaepkghbihkaa.lane

theorem ret_ii {a b c d : Int} (h1 : a = b) (h2 : c = d) : Ending.returned (.tuple #[.int .i64 a, .int .i64 c]) = .returned (.tuple #[.int .i64 b, .int .i64 d]) := by rw [h1, h2]
theorem ansR_bad {n : Nat} {least c : Int} (h : badR least c) : ansR n least (some c) = (65533, 1) := by simp only [ansR]; rw [if_pos h]
theorem ansR_good {n : Nat} {least c : Int} (h : ¬ badR least c) : ansR n least (some c) = (c, (n : Int) + 1) := by simp only [ansR]; rw [if_neg h]
theorem contF_yes {s : ByteArray} {p m : Nat} {b : Int} (h1 : p < s.size) (h2 : bt s p / 64 = 2) : contF s p (m + 1) b = contF s (p + 1) m (64 * b + bt s p % 64) := by simp [contF, h1, h2]
theorem contF_no {s : ByteArray} {p m : Nat} {b : Int} (h : ¬ (p < s.size ∧ bt s p / 64 = 2)) : contF s p (m + 1) b = none := by unfold contF; rw [if_neg h]

set_option maxHeartbeats 2000000 in
theorem runeAt_two (s : ByteArray) (p : Nat) (w : World) (hs : s.size ≤ 140737488351232) (hp : p < s.size) (h0 : 192 ≤ bt s p) (h1 : bt s p < 224) :
    Calls Try.prog 104 #[.string s, .int .i64 (p : Int)] w fun e w' => e = .returned (.tuple #[.int .i64 ((Utf8.decode s p).1 : Int), .int .i64 ((Utf8.decode s p).2 : Int)]) ∧ w = w' := by
  have hb := get_bt s
  obtain ⟨R, hR⟩ : ∃ R, contF s (p + 1) 1 (bt s p - 192) = R := ⟨_, rfl⟩
  have hans := ref_two s p h0 h1
  rw [hR] at hans
  generalize ((Utf8.decode s p).1 : Int) = A at *
  generalize ((Utf8.decode s p).2 : Int) = W at *
  have HA : Hid (ansR 1 128 R = (A, W)) := hans
  have HR0 : Hid (contF s (p + 1) 1 (bt s p - 192) = R) := hR
  clear hans hR
  go_enter Try.func104, Try.ntmps104
  go_wp2
  go_loop [6, 46] (fun b k => ∃ (j : Nat) (c : Int), j ≤ 1 ∧ k = .int .i64 (j : Int) ∧ b = .int .i64 c ∧ 0 ≤ c ∧ c ≤ 16777215 ∧ Hid (((j = 0 ∧ c ≤ 63) ∨ (j = 1 ∧ c ≤ 4095) ∨ (j = 2 ∧ c ≤ 262143) ∨ j = 3) ∧ contF s (p + 1 + j) (1 - j) c = R)) (fun _ k => 4 - (RowKit.intOf k).toNat)
  case atStart => exact ⟨0, bt s p - 192, by omega, rfl, rfl, by omega, by omega, by omega, HR0.out⟩
  case round =>
    obtain ⟨j, c, hj, rfl, rfl, hc0, hc1, HR⟩ := hrel
    clear HR0
    by_cases hlt : j < 1
    · obtain ⟨hjc, hcont⟩ := HR.out
      rw [show 1 - j = (1 - (j + 1)) + 1 by omega] at hcont
      obtain ⟨q, hq⟩ : ∃ q, p + 1 + j = q := ⟨_, rfl⟩
      have hqz : (p : Int) + 1 + (j : Int) = (q : Int) := by omega
      rw [hq] at hcont
      by_cases hin : q < s.size
      · have b0 := bt_nonneg s q
        have b1 := bt_le s q
        by_cases h2 : bt s q / 64 = 2
        · rw [contF_yes hin h2] at hcont
          have e2 : (bt s q / 64 != 2) = false := by simp [h2]
          have HN : Hid (((j + 1 = 0 ∧ 64 * c + bt s q % 64 ≤ 63) ∨ (j + 1 = 1 ∧ 64 * c + bt s q % 64 ≤ 4095) ∨ (j + 1 = 2 ∧ 64 * c + bt s q % 64 ≤ 262143) ∨ j + 1 = 3) ∧ contF s (p + 1 + (j + 1)) (1 - (j + 1)) (64 * c + bt s q % 64) = R) := by
            refine ⟨by omega, ?_⟩
            rw [show p + 1 + (j + 1) = q + 1 by omega]; exact hcont
          have hcb : 64 * c + bt s q % 64 ≤ 16777215 := by omega
          clear HR hjc hcont h2
          go_wp2
          go_round
          case rel => exact ⟨j + 1, 64 * c + bt s q % 64, by omega, by go_num, rfl, by omega, hcb, HN⟩
          case measure => simp [RowKit.intOf]; omega
        · rw [contF_no (fun h => h2 h.2)] at hcont
          have e2 : (bt s q / 64 != 2) = true := by simp [h2]
          have hA := HA.out
          rw [← hcont] at hA
          have HA2 : Hid ((65533, 1) = (A, W)) := hA
          clear HR hjc hcont h2 hA HA
          go_wp2
          go_ret2
          exact ⟨ret_ii (congrArg Prod.fst HA2.out) (congrArg Prod.snd HA2.out), rfl⟩
      · rw [contF_no (fun h => hin h.1)] at hcont
        have hA := HA.out
        rw [← hcont] at hA
        have HA2 : Hid ((65533, 1) = (A, W)) := hA
        clear HR hjc hcont hA HA
        go_wp2
        go_ret2
        exact ⟨ret_ii (congrArg Prod.fst HA2.out) (congrArg Prod.snd HA2.out), rfl⟩
    · obtain rfl : j = 1 := by omega
      have hcont := HR.out.2
      rw [Nat.sub_self, contF] at hcont
      have hA := HA.out
      rw [← hcont] at hA
      clear HR hcont HA hlt
      by_cases t1 : c < 128
      · rw [ansR_bad (.inl t1)] at hA
        have HA2 : Hid ((65533, 1) = (A, W)) := hA
        clear hA
        go_wp2
        go_ret2
        exact ⟨ret_ii (congrArg Prod.fst HA2.out) (congrArg Prod.snd HA2.out), rfl⟩
      · by_cases t2 : 1114111 < c
        · rw [ansR_bad (.inr (.inl t2))] at hA
          have HA2 : Hid ((65533, 1) = (A, W)) := hA
          clear hA
          go_wp2
          go_ret2
          exact ⟨ret_ii (congrArg Prod.fst HA2.out) (congrArg Prod.snd HA2.out), rfl⟩
        · by_cases t3 : 55296 ≤ c ∧ c < 57344
          · rw [ansR_bad (.inr (.inr t3))] at hA
            have HA2 : Hid ((65533, 1) = (A, W)) := hA
            obtain ⟨t4, t5⟩ := t3
            clear hA
            go_wp2
            go_ret2
            exact ⟨ret_ii (congrArg Prod.fst HA2.out) (congrArg Prod.snd HA2.out), rfl⟩
          · rw [ansR_good (by unfold badR; omega)] at hA
            have HA2 : Hid ((c, ((1 : Nat) : Int) + 1) = (A, W)) := hA
            clear hA
            by_cases t4 : 55296 ≤ c
            · have t5 : ¬ c < 57344 := by omega
              clear t3
              go_wp2
              go_ret2
              exact ⟨ret_ii (congrArg Prod.fst HA2.out) (congrArg Prod.snd HA2.out), rfl⟩
            · clear t3
              go_wp2
              go_ret2
              exact ⟨ret_ii (congrArg Prod.fst HA2.out) (congrArg Prod.snd HA2.out), rfl⟩

set_option maxHeartbeats 2000000 in
theorem runeAt_three (s : ByteArray) (p : Nat) (w : World) (hs : s.size ≤ 140737488351232) (hp : p < s.size) (h0 : 224 ≤ bt s p) (h1 : bt s p < 240) :
    Calls Try.prog 104 #[.string s, .int .i64 (p : Int)] w fun e w' => e = .returned (.tuple #[.int .i64 ((Utf8.decode s p).1 : Int), .int .i64 ((Utf8.decode s p).2 : Int)]) ∧ w = w' := by
  have hb := get_bt s
  obtain ⟨R, hR⟩ : ∃ R, contF s (p + 1) 2 (bt s p - 224) = R := ⟨_, rfl⟩
  have hans := ref_three s p h0 h1
  rw [hR] at hans
  generalize ((Utf8.decode s p).1 : Int) = A at *
  generalize ((Utf8.decode s p).2 : Int) = W at *
  have HA : Hid (ansR 2 2048 R = (A, W)) := hans
  have HR0 : Hid (contF s (p + 1) 2 (bt s p - 224) = R) := hR
  clear hans hR
  go_enter Try.func104, Try.ntmps104
  go_wp2
  go_loop [6, 46] (fun b k => ∃ (j : Nat) (c : Int), j ≤ 2 ∧ k = .int .i64 (j : Int) ∧ b = .int .i64 c ∧ 0 ≤ c ∧ c ≤ 16777215 ∧ Hid (((j = 0 ∧ c ≤ 63) ∨ (j = 1 ∧ c ≤ 4095) ∨ (j = 2 ∧ c ≤ 262143) ∨ j = 3) ∧ contF s (p + 1 + j) (2 - j) c = R)) (fun _ k => 4 - (RowKit.intOf k).toNat)
  case atStart => exact ⟨0, bt s p - 224, by omega, rfl, rfl, by omega, by omega, by omega, HR0.out⟩
  case round =>
    obtain ⟨j, c, hj, rfl, rfl, hc0, hc1, HR⟩ := hrel
    clear HR0
    by_cases hlt : j < 2
    · obtain ⟨hjc, hcont⟩ := HR.out
      rw [show 2 - j = (2 - (j + 1)) + 1 by omega] at hcont
      obtain ⟨q, hq⟩ : ∃ q, p + 1 + j = q := ⟨_, rfl⟩
      have hqz : (p : Int) + 1 + (j : Int) = (q : Int) := by omega
      rw [hq] at hcont
      by_cases hin : q < s.size
      · have b0 := bt_nonneg s q
        have b1 := bt_le s q
        by_cases h2 : bt s q / 64 = 2
        · rw [contF_yes hin h2] at hcont
          have e2 : (bt s q / 64 != 2) = false := by simp [h2]
          have HN : Hid (((j + 1 = 0 ∧ 64 * c + bt s q % 64 ≤ 63) ∨ (j + 1 = 1 ∧ 64 * c + bt s q % 64 ≤ 4095) ∨ (j + 1 = 2 ∧ 64 * c + bt s q % 64 ≤ 262143) ∨ j + 1 = 3) ∧ contF s (p + 1 + (j + 1)) (2 - (j + 1)) (64 * c + bt s q % 64) = R) := by
            refine ⟨by omega, ?_⟩
            rw [show p + 1 + (j + 1) = q + 1 by omega]; exact hcont
          have hcb : 64 * c + bt s q % 64 ≤ 16777215 := by omega
          clear HR hjc hcont h2
          go_wp2
          go_round
          case rel => exact ⟨j + 1, 64 * c + bt s q % 64, by omega, by go_num, rfl, by omega, hcb, HN⟩
          case measure => simp [RowKit.intOf]; omega
        · rw [contF_no (fun h => h2 h.2)] at hcont
          have e2 : (bt s q / 64 != 2) = true := by simp [h2]
          have hA := HA.out
          rw [← hcont] at hA
          have HA2 : Hid ((65533, 1) = (A, W)) := hA
          clear HR hjc hcont h2 hA HA
          go_wp2
          go_ret2
          exact ⟨ret_ii (congrArg Prod.fst HA2.out) (congrArg Prod.snd HA2.out), rfl⟩
      · rw [contF_no (fun h => hin h.1)] at hcont
        have hA := HA.out
        rw [← hcont] at hA
        have HA2 : Hid ((65533, 1) = (A, W)) := hA
        clear HR hjc hcont hA HA
        go_wp2
        go_ret2
        exact ⟨ret_ii (congrArg Prod.fst HA2.out) (congrArg Prod.snd HA2.out), rfl⟩
    · obtain rfl : j = 2 := by omega
      have hcont := HR.out.2
      rw [Nat.sub_self, contF] at hcont
      have hA := HA.out
      rw [← hcont] at hA
      clear HR hcont HA hlt
      by_cases t1 : c < 2048
      · rw [ansR_bad (.inl t1)] at hA
        have HA2 : Hid ((65533, 1) = (A, W)) := hA
        clear hA
        go_wp2
        go_ret2
        exact ⟨ret_ii (congrArg Prod.fst HA2.out) (congrArg Prod.snd HA2.out), rfl⟩
      · by_cases t2 : 1114111 < c
        · rw [ansR_bad (.inr (.inl t2))] at hA
          have HA2 : Hid ((65533, 1) = (A, W)) := hA
          clear hA
          go_wp2
          go_ret2
          exact ⟨ret_ii (congrArg Prod.fst HA2.out) (congrArg Prod.snd HA2.out), rfl⟩
        · by_cases t3 : 55296 ≤ c ∧ c < 57344
          · rw [ansR_bad (.inr (.inr t3))] at hA
            have HA2 : Hid ((65533, 1) = (A, W)) := hA
            obtain ⟨t4, t5⟩ := t3
            clear hA
            go_wp2
            go_ret2
            exact ⟨ret_ii (congrArg Prod.fst HA2.out) (congrArg Prod.snd HA2.out), rfl⟩
          · rw [ansR_good (by unfold badR; omega)] at hA
            have HA2 : Hid ((c, ((2 : Nat) : Int) + 1) = (A, W)) := hA
            clear hA
            by_cases t4 : 55296 ≤ c
            · have t5 : ¬ c < 57344 := by omega
              clear t3
              go_wp2
              go_ret2
              exact ⟨ret_ii (congrArg Prod.fst HA2.out) (congrArg Prod.snd HA2.out), rfl⟩
            · clear t3
              go_wp2
              go_ret2
              exact ⟨ret_ii (congrArg Prod.fst HA2.out) (congrArg Prod.snd HA2.out), rfl⟩

set_option maxHeartbeats 2000000 in
theorem runeAt_four (s : ByteArray) (p : Nat) (w : World) (hs : s.size ≤ 140737488351232) (hp : p < s.size) (h0 : 240 ≤ bt s p) (h1 : bt s p < 248) :
    Calls Try.prog 104 #[.string s, .int .i64 (p : Int)] w fun e w' => e = .returned (.tuple #[.int .i64 ((Utf8.decode s p).1 : Int), .int .i64 ((Utf8.decode s p).2 : Int)]) ∧ w = w' := by
  have hb := get_bt s
  obtain ⟨R, hR⟩ : ∃ R, contF s (p + 1) 3 (bt s p - 240) = R := ⟨_, rfl⟩
  have hans := ref_four s p h0 h1
  rw [hR] at hans
  generalize ((Utf8.decode s p).1 : Int) = A at *
  generalize ((Utf8.decode s p).2 : Int) = W at *
  have HA : Hid (ansR 3 65536 R = (A, W)) := hans
  have HR0 : Hid (contF s (p + 1) 3 (bt s p - 240) = R) := hR
  clear hans hR
  go_enter Try.func104, Try.ntmps104
  go_wp2
  go_loop [6, 46] (fun b k => ∃ (j : Nat) (c : Int), j ≤ 3 ∧ k = .int .i64 (j : Int) ∧ b = .int .i64 c ∧ 0 ≤ c ∧ c ≤ 16777215 ∧ Hid (((j = 0 ∧ c ≤ 63) ∨ (j = 1 ∧ c ≤ 4095) ∨ (j = 2 ∧ c ≤ 262143) ∨ j = 3) ∧ contF s (p + 1 + j) (3 - j) c = R)) (fun _ k => 4 - (RowKit.intOf k).toNat)
  case atStart => exact ⟨0, bt s p - 240, by omega, rfl, rfl, by omega, by omega, by omega, HR0.out⟩
  case round =>
    obtain ⟨j, c, hj, rfl, rfl, hc0, hc1, HR⟩ := hrel
    clear HR0
    by_cases hlt : j < 3
    · obtain ⟨hjc, hcont⟩ := HR.out
      rw [show 3 - j = (3 - (j + 1)) + 1 by omega] at hcont
      obtain ⟨q, hq⟩ : ∃ q, p + 1 + j = q := ⟨_, rfl⟩
      have hqz : (p : Int) + 1 + (j : Int) = (q : Int) := by omega
      rw [hq] at hcont
      by_cases hin : q < s.size
      · have b0 := bt_nonneg s q
        have b1 := bt_le s q
        by_cases h2 : bt s q / 64 = 2
        · rw [contF_yes hin h2] at hcont
          have e2 : (bt s q / 64 != 2) = false := by simp [h2]
          have HN : Hid (((j + 1 = 0 ∧ 64 * c + bt s q % 64 ≤ 63) ∨ (j + 1 = 1 ∧ 64 * c + bt s q % 64 ≤ 4095) ∨ (j + 1 = 2 ∧ 64 * c + bt s q % 64 ≤ 262143) ∨ j + 1 = 3) ∧ contF s (p + 1 + (j + 1)) (3 - (j + 1)) (64 * c + bt s q % 64) = R) := by
            refine ⟨by omega, ?_⟩
            rw [show p + 1 + (j + 1) = q + 1 by omega]; exact hcont
          have hcb : 64 * c + bt s q % 64 ≤ 16777215 := by omega
          clear HR hjc hcont h2
          go_wp2
          go_round
          case rel => exact ⟨j + 1, 64 * c + bt s q % 64, by omega, by go_num, rfl, by omega, hcb, HN⟩
          case measure => simp [RowKit.intOf]; omega
        · rw [contF_no (fun h => h2 h.2)] at hcont
          have e2 : (bt s q / 64 != 2) = true := by simp [h2]
          have hA := HA.out
          rw [← hcont] at hA
          have HA2 : Hid ((65533, 1) = (A, W)) := hA
          clear HR hjc hcont h2 hA HA
          go_wp2
          go_ret2
          exact ⟨ret_ii (congrArg Prod.fst HA2.out) (congrArg Prod.snd HA2.out), rfl⟩
      · rw [contF_no (fun h => hin h.1)] at hcont
        have hA := HA.out
        rw [← hcont] at hA
        have HA2 : Hid ((65533, 1) = (A, W)) := hA
        clear HR hjc hcont hA HA
        go_wp2
        go_ret2
        exact ⟨ret_ii (congrArg Prod.fst HA2.out) (congrArg Prod.snd HA2.out), rfl⟩
    · obtain rfl : j = 3 := by omega
      have hcont := HR.out.2
      rw [Nat.sub_self, contF] at hcont
      have hA := HA.out
      rw [← hcont] at hA
      clear HR hcont HA hlt
      by_cases t1 : c < 65536
      · rw [ansR_bad (.inl t1)] at hA
        have HA2 : Hid ((65533, 1) = (A, W)) := hA
        clear hA
        go_wp2
        go_ret2
        exact ⟨ret_ii (congrArg Prod.fst HA2.out) (congrArg Prod.snd HA2.out), rfl⟩
      · by_cases t2 : 1114111 < c
        · rw [ansR_bad (.inr (.inl t2))] at hA
          have HA2 : Hid ((65533, 1) = (A, W)) := hA
          clear hA
          go_wp2
          go_ret2
          exact ⟨ret_ii (congrArg Prod.fst HA2.out) (congrArg Prod.snd HA2.out), rfl⟩
        · by_cases t3 : 55296 ≤ c ∧ c < 57344
          · rw [ansR_bad (.inr (.inr t3))] at hA
            have HA2 : Hid ((65533, 1) = (A, W)) := hA
            obtain ⟨t4, t5⟩ := t3
            clear hA
            go_wp2
            go_ret2
            exact ⟨ret_ii (congrArg Prod.fst HA2.out) (congrArg Prod.snd HA2.out), rfl⟩
          · rw [ansR_good (by unfold badR; omega)] at hA
            have HA2 : Hid ((c, ((3 : Nat) : Int) + 1) = (A, W)) := hA
            clear hA
            by_cases t4 : 55296 ≤ c
            · have t5 : ¬ c < 57344 := by omega
              clear t3
              go_wp2
              go_ret2
              exact ⟨ret_ii (congrArg Prod.fst HA2.out) (congrArg Prod.snd HA2.out), rfl⟩
            · clear t3
              go_wp2
              go_ret2
              exact ⟨ret_ii (congrArg Prod.fst HA2.out) (congrArg Prod.snd HA2.out), rfl⟩

set_option maxHeartbeats 1000000 in
theorem runeAt_any (s : ByteArray) (p : Nat) (w : World) (hs : s.size ≤ 140737488351232) (hp : p < s.size) :
    Calls Try.prog 104 #[.string s, .int .i64 (p : Int)] w fun e w' => e = .returned (.tuple #[.int .i64 ((Utf8.decode s p).1 : Int), .int .i64 ((Utf8.decode s p).2 : Int)]) ∧ w = w' := by
  have b0 := bt_nonneg s p
  have b1 := bt_le s p
  by_cases k1 : bt s p < 128
  · rw [ref_one s p k1]
    have hb := get_bt s
    have ez : (((bt s p).toNat : Nat) : Int) = bt s p := by omega
    simp only [ez]
    clear ez
    go_enter Try.func104, Try.ntmps104
    go_wp2
    go_ret2
    exact ⟨rfl, rfl⟩
  · by_cases k2 : 192 ≤ bt s p ∧ bt s p < 224
    · exact runeAt_two s p w hs hp k2.1 k2.2
    · by_cases k3 : 224 ≤ bt s p ∧ bt s p < 240
      · exact runeAt_three s p w hs hp k3.1 k3.2
      · by_cases k4 : 240 ≤ bt s p ∧ bt s p < 248
        · exact runeAt_four s p w hs hp k4.1 k4.2
        · rw [ref_none s p (by omega) (by omega)]
          have hb := get_bt s
          by_cases k5 : bt s p < 192
          · have k6 : ¬ 192 ≤ bt s p := by omega
            have k7 : ¬ 224 ≤ bt s p := by omega
            have k8 : ¬ 240 ≤ bt s p := by omega
            clear k2 k3 k4
            go_enter Try.func104, Try.ntmps104
            go_wp2
            go_ret2
            exact ⟨rfl, rfl⟩
          · have k6 : 248 ≤ bt s p := by omega
            clear k2 k3 k4
            go_enter Try.func104, Try.ntmps104
            go_wp2
            go_ret2
            exact ⟨rfl, rfl⟩
end Go.Proofs.Ytebaepkghbihkaa.utf

/- plugref's utf: what Runes and Wide answer. -/
namespace Go.Proofs.Ytebaepkghbihkaa.utf
set_option maxRecDepth 100000
open Go.RowKit Go.PlainAid Go.Lib Go.Proofs.Ytebaepkghbihkaa.lane

theorem rns_length (s : ByteArray) : (rns s).length ≤ s.size := by
  have h2 := runesU_length _ s.data.toList (Nat.le_refl _)
  rw [← size_eq] at h2
  exact h2
theorem decode_in (s : ByteArray) (pos : Nat) (h : pos < s.size) : pos + (Utf8.decode s pos).2 ≤ s.size := by
  rw [← decodeL_drop]
  have hne : s.data.toList.drop pos ≠ [] := by
    intro h0
    have := congrArg List.length h0
    rw [List.length_drop, ← size_eq, List.length_nil] at this
    omega
  have := decodeL_le _ hne
  rw [List.length_drop, ← size_eq] at this
  omega

set_option maxHeartbeats 1000000 in
theorem runes_any (s : ByteArray) (w : World) (hs : s.size ≤ 17000000000000) :
    Calls Try.prog 85 #[.string s] w fun e w' => ∃ v, e = .returned v ∧ Rd w' v (rns s) ∧ Below w.heap.size w w' := by
  obtain ⟨i0, hi, hz0, hz1, hz2⟩ := info_parts infoI
  have HM : Hid ((rns s).length ≤ s.size) := rns_length s
  go_enter Try.func85, Try.ntmps85
  go_wp2
  go_loopw [3, 4] (fun v p wr => ∃ (pos : Nat) (acc : List Int), pos ≤ s.size ∧ p = .int .i64 (pos : Int) ∧ Ins wr w.heap.size v acc ∧ Below w.heap.size w wr ∧ Hid (acc ++ runesU (s.data.toList.drop pos) = rns s))
    (fun _ p _ => s.size - (RowKit.intOf p).toNat)
  case atStart => exact ⟨0, [], Nat.zero_le _, rfl, Ins.nil _ _, Below.refl _ _, rfl⟩
  case round =>
    obtain ⟨pos, acc, hps, rfl, hown, hbel, HR⟩ := hrel
    have hsz := hbel.size
    by_cases hp : pos < s.size
    · have hin := decode_in s pos hp
      have hwd := decode_w s pos
      have HC : Hid (∀ w : World, Calls Try.prog 104 #[.string s, .int .i64 (pos : Int)] w fun e w' => e = .returned (.tuple #[.int .i64 ((Utf8.decode s pos).1 : Int), .int .i64 ((Utf8.decode s pos).2 : Int)]) ∧ w = w') := fun w => runeAt_any s pos w (by omega) hp
      have h := HR.out
      have hal : acc.length ≤ s.size := by
        have h2 := congrArg List.length h
        rw [List.length_append] at h2
        have := HM.out; omega
      rw [rns_at s pos hp] at h
      generalize ((Utf8.decode s pos).1 : Int) = r at h HC
      generalize (Utf8.decode s pos).2 = d at h HC hin hwd
      have HH : Hid ((acc ++ [r]) ++ runesU (s.data.toList.drop (pos + d)) = rns s) := by show _ = _; rw [List.append_assoc]; exact h
      have HO : Hid (Ins wr w.heap.size u3 acc) := hown
      clear HR h hown
      go_wp2_with fail
      refine (HC.out _).mono ?_
      rintro e w1 ⟨rfl, rfl⟩
      go_wp2_with (at_builtin; (refine wpList_append_lies _ rfl _ _ 61 rfl w.heap.size 3 i0 _ 1 8 Try.underlying61 hi hz0 hz1 hz2 rfl (by omega) u3 acc.length (acc.map (Value.int .i64)) rfl (World.ownsRow.alloc HO.out _) ⟨wr.heap.size, 0, none⟩ 1 1 [.int .i64 r] rfl rfl (World.news_of_block (cs := #[.int .i64 r]) (t := 3) (fr := (0, 0)) (heap_alloc_new wr _)) (by simp [Value.oneCell']) (by omega) (by unfold maxLen; omega) (by omega) (by simp; omega) (wr.heap.size + 1) (by simp) ?_); intro g cap w1 hown1 hgrow hat hgl)
      go_wp2
      go_roundw
      case rel => exact ⟨pos + d, acc ++ [r], hin, by go_num, Ins.push hown1, (hbel.alloc hsz _).grown hgrow (by simp; omega) HO.out.block, HH⟩
      case measure => simp [RowKit.intOf]; omega
    · have h := HR.out
      rw [rns_end s pos hp, List.append_nil] at h
      go_wp2
      go_ret
      exact ⟨_, rfl, by rw [← h]; exact Ins.rd hown, hbel⟩

theorem wtxt_small {s : ByteArray} (h : cnt (rns s) ≤ 126) : wtxt s = strOfNums (wideL (rns s)) ∧ werr s = 0 := by
  have := wideL_length (rns s)
  unfold wtxt werr
  rw [if_pos (by omega), if_pos (by omega)]; exact ⟨rfl, rfl⟩
theorem wtxt_great {s : ByteArray} (h : 126 < cnt (rns s)) : wtxt s = ⟨#[]⟩ ∧ werr s = 2 := by
  have := wideL_length (rns s)
  unfold wtxt werr
  rw [if_neg (by omega), if_neg (by omega)]; exact ⟨rfl, rfl⟩
theorem str_nil (acc : ByteArray) : acc ++ strOfNums [] = acc := by apply ByteArray.ext; simp [strOfNums]

set_option maxHeartbeats 2000000 in
theorem rwide_any (s : ByteArray) (w : World) (hs : s.size ≤ 17000000000000) :
    Calls Try.prog 59 #[.string s] w fun e w' => e = .returned (.tuple #[.string (wtxt s), .int .i64 (werr s)]) ∧ Below w.heap.size w w' := by
  have HRU : Hid (∀ w : World, Calls Try.prog 85 #[.string s] w fun e w' => ∃ v, e = .returned v ∧ Rd w' v (rns s) ∧ Below w.heap.size w w') := fun w => runes_any s w hs
  have HOK : Hid (∀ r ∈ rns s, okR r) := rns_ok s
  have hrl := rns_length s
  have HS : Hid (cnt (rns s) ≤ 126 → wtxt s = strOfNums (wideL (rns s)) ∧ werr s = 0) := wtxt_small
  have HG : Hid (126 < cnt (rns s) → wtxt s = ⟨#[]⟩ ∧ werr s = 2) := wtxt_great
  generalize rns s = rs at *
  generalize wtxt s = T at *
  generalize werr s = Z at *
  go_enter Try.func59, Try.ntmps59
  go_wp2_with fail
  refine (HRU.out _).mono ?_
  rintro e u ⟨v, rfl, ⟨a, cp, rfl, hcp, hcells⟩, hb⟩
  have HCE : Hid (rs ≠ [] → ∃ g off, a = some ⟨g, off, none⟩ ∧ g < u.heap.size ∧ ∀ j x, rs[j]? = some x → u.cell? ⟨g, off + j, none⟩ = some (.int .i64 x)) := hcells
  clear hcells HRU
  go_wp2_with fail
  go_loopw [4, 5, 11] (fun o nn i wr => ∃ (k n : Nat) (acc : ByteArray), k ≤ rs.length ∧ n ≤ 126 ∧ acc.size = 2 * n ∧ o = .string acc ∧ nn = .int .i64 (n : Int) ∧ i = .int .i64 (k : Int) ∧ Below u.heap.size u wr ∧ Hid (n + cnt (rs.drop k) = cnt rs ∧ acc ++ strOfNums (wideL (rs.drop k)) = strOfNums (wideL rs)))
    (fun _ _ i _ => rs.length - (RowKit.intOf i).toNat)
  case atStart => exact ⟨0, 0, ⟨#[]⟩, Nat.zero_le _, by omega, rfl, rfl, rfl, rfl, Below.refl _ _, by simp, by apply ByteArray.ext; simp⟩
  case round =>
    obtain ⟨k, n, acc, hk, hn, hac, rfl, rfl, rfl, hbel, HR⟩ := hrel
    by_cases hlt : k < rs.length
    · obtain ⟨g, off, rfl, hg, hcl⟩ := HCE.out (by intro h; rw [h] at hlt; simp at hlt)
      obtain ⟨c, hc⟩ : ∃ c, rs[k]? = some c := ⟨_, List.getElem?_eq_getElem hlt⟩
      have hcell := (hbel.cell (p := ⟨g, off + k, none⟩) hg).trans (hcl k c hc)
      have hok : okR c := HOK.out c (List.mem_of_getElem? hc)
      have hd : rs.drop k = c :: rs.drop (k + 1) := by
        obtain ⟨h1, h2⟩ := List.getElem?_eq_some_iff.1 hc
        rw [List.drop_eq_getElem_cons h1, h2]
      have h := HR.out
      rw [hd, cnt, wideL_cons, str_append, ← ByteArray.append_assoc] at h
      have hok' := hok
      unfold okR at hok'
      clear HR hd hcl hc
      by_cases h1 : c < 65536
      · have hw1 : wn c = 1 := by unfold wn; rw [if_pos h1]
        rw [hw1, wu_one h1] at h
        have hc0 : 0 ≤ c := by omega
        have hng : ¬ 65535 < c := by omega
        by_cases hbig : n + 1 ≤ 126
        · have HT : Hid (∀ w : World, Calls Try.prog 56 #[.int .i64 c] w fun e w' => e = .returned (.string (strOfNums [c % 256, c / 256])) ∧ Below w.heap.size w w') := fun w => twoBytes_any c hc0 (by omega) w
          have hxz : (strOfNums [c % 256, c / 256]).size = 2 := str_size _
          generalize strOfNums [c % 256, c / 256] = x at h HT hxz
          have hzz : (acc ++ x).size = acc.size + x.size := ByteArray.size_append
          have HH : Hid (n + 1 + cnt (rs.drop (k + 1)) = cnt rs ∧ (acc ++ x) ++ strOfNums (wideL (rs.drop (k + 1))) = strOfNums (wideL rs)) := ⟨by omega, h.2⟩
          have hbig' : ¬ (126 : Int) < (n : Int) + 1 := by omega
          clear h hok hok' h1 hw1 HS HG HOK
          go_wp2_with fail
          refine (HT.out _).mono ?_
          rintro e w1 ⟨rfl, hb1⟩
          go_wp2
          go_roundw
          case rel => exact ⟨k + 1, n + 1, acc ++ x, by omega, hbig, by omega, rfl, by go_num, by go_num, bsq hbel hb1, HH⟩
          case measure => simp [RowKit.intOf]; omega
        · have hG := HG.out (by omega)
          have hbig' : (126 : Int) < (n : Int) + 1 := by omega
          have HZ : Hid (T = ⟨#[]⟩ ∧ Z = 2) := hG
          clear h hok hok' h1 hw1 HS HG HOK hG hbig
          go_wp2
          go_ret2
          exact ⟨ret_si HZ.out.1.symm HZ.out.2.symm, bsq hb hbel⟩
      · have hw1 : wn c = 2 := by unfold wn; rw [if_neg h1]
        rw [hw1, wu_two h1] at h
        obtain ⟨q, rfl⟩ : ∃ q, c = q + 65536 := ⟨c - 65536, by omega⟩
        rw [show q + 65536 - 65536 = q by omega] at h
        have hq0 : 0 ≤ q := by omega
        have hq1 : q ≤ 1048575 := by omega
        have hgt : 65535 < q + 65536 := by omega
        by_cases hbig : n + 2 ≤ 126
        · have HT : Hid (∀ w : World, Calls Try.prog 56 #[.int .i64 (55296 + q / 1024)] w fun e w' => e = .returned (.string (strOfNums [(55296 + q / 1024) % 256, (55296 + q / 1024) / 256])) ∧ Below w.heap.size w w') := fun w => twoBytes_any _ (by omega) (by omega) w
          have HU : Hid (∀ w : World, Calls Try.prog 56 #[.int .i64 (56320 + q % 1024)] w fun e w' => e = .returned (.string (strOfNums [(56320 + q % 1024) % 256, (56320 + q % 1024) / 256])) ∧ Below w.heap.size w w') := fun w => twoBytes_any _ (by omega) (by omega) w
          have hsp : strOfNums [(55296 + q / 1024) % 256, (55296 + q / 1024) / 256, (56320 + q % 1024) % 256, (56320 + q % 1024) / 256] = strOfNums [(55296 + q / 1024) % 256, (55296 + q / 1024) / 256] ++ strOfNums [(56320 + q % 1024) % 256, (56320 + q % 1024) / 256] := by rw [← str_append]; rfl
          rw [hsp] at h
          clear hsp
          have hxz : (strOfNums [(55296 + q / 1024) % 256, (55296 + q / 1024) / 256]).size = 2 := str_size _
          have hyz : (strOfNums [(56320 + q % 1024) % 256, (56320 + q % 1024) / 256]).size = 2 := str_size _
          generalize strOfNums [(55296 + q / 1024) % 256, (55296 + q / 1024) / 256] = x at h HT hxz
          generalize strOfNums [(56320 + q % 1024) % 256, (56320 + q % 1024) / 256] = y at h HU hyz
          have eas : acc ++ (x ++ y) = acc ++ x ++ y := ByteArray.append_assoc.symm
          rw [eas] at h
          clear eas
          have hzz : (acc ++ x).size = acc.size + x.size := ByteArray.size_append
          have hzy : (acc ++ x ++ y).size = (acc ++ x).size + y.size := ByteArray.size_append
          have HH : Hid (n + 2 + cnt (rs.drop (k + 1)) = cnt rs ∧ (acc ++ x ++ y) ++ strOfNums (wideL (rs.drop (k + 1))) = strOfNums (wideL rs)) := ⟨by omega, h.2⟩
          have hbig' : ¬ (126 : Int) < (n : Int) + 1 + 1 := by omega
          clear h hok hok' h1 hw1 HS HG HOK
          go_wp2_with fail
          refine (HT.out _).mono ?_
          rintro e w1 ⟨rfl, hb1⟩
          go_wp2_with fail
          refine (HU.out _).mono ?_
          rintro e w2 ⟨rfl, hb2⟩
          go_wp2
          go_roundw
          case rel => exact ⟨k + 1, n + 2, acc ++ x ++ y, by omega, hbig, by omega, rfl, by go_num, by go_num, bsq (bsq hbel hb1) hb2, HH⟩
          case measure => simp [RowKit.intOf]; omega
        · have hG := HG.out (by omega)
          have hbig' : (126 : Int) < (n : Int) + 1 + 1 := by omega
          have HZ : Hid (T = ⟨#[]⟩ ∧ Z = 2) := hG
          clear h hok hok' h1 hw1 HS HG HOK hG hbig
          go_wp2
          go_ret2
          exact ⟨ret_si HZ.out.1.symm HZ.out.2.symm, bsq hb hbel⟩
    · obtain rfl : k = rs.length := by omega
      have h := HR.out
      rw [List.drop_length, cnt, wideL_nil, str_nil] at h
      have hS := HS.out (by omega)
      have HZ : Hid (acc = T ∧ 0 = Z) := ⟨by rw [hS.1, h.2], hS.2.symm⟩
      clear h hS HS HG HOK HR HCE
      go_wp2
      go_ret2
      exact ⟨ret_si HZ.out.1 HZ.out.2, bsq hb hbel⟩
end Go.Proofs.Ytebaepkghbihkaa.utf

/- plugref's desc: what TextText and ReadText answer. -/
namespace Go.Proofs.Ytebaepkghbihkaa.desc
open Go.RowKit Go.PlainAid Go.Proofs.Ytebaepkghbihkaa.lane Go.Proofs.Ytebaepkghbihkaa.utf
set_option linter.unusedVariables false

theorem two_all (n : Int) (h0 : 0 ≤ n) (h1 : n ≤ 255) : allB 255 [n, 3] = true := by
  simp [allB, inB, h0, h1]
set_option maxHeartbeats 1000000 in
theorem rtextText_any (s : ByteArray) (w : World) (hs : s.size ≤ 17000000000000) :
    Calls Try.prog 29 #[.string s] w fun e w' => e = .returned (.tuple #[.string (dtxt s), .int .i64 (werr s)]) ∧ Below w.heap.size w w' := by
  have HW : Hid (∀ w : World, Calls Try.prog 59 #[.string s] w fun e w' => e = .returned (.tuple #[.string (wtxt s), .int .i64 (werr s)]) ∧ Below w.heap.size w w') := fun w => rwide_any s w hs
  unfold dtxt
  rcases werr_cases s with ⟨h0, hz⟩ | h0
  · rw [h0] at HW ⊢
    rw [if_pos rfl]
    generalize wtxt s = x at *
    clear h0
    go_enter Try.func29, Try.ntmps29
    go_wp2_with fail
    refine (HW.out _).mono ?_
    rintro e wa ⟨rfl, hb⟩
    have HB : Hid (Below w.heap.size w wa) := hb
    obtain ⟨y, hy⟩ : ∃ y, strOfNums [2 + (x.size : Int), 3] = y := ⟨_, rfl⟩
    have HY : Hid (strOfNums [2 + (x.size : Int), 3] = y) := hy
    have hz2 : y.size = 2 := by rw [← hy]; exact str_size _
    have HC : Hid (Calls Try.prog 35 #[.slice (some ⟨wa.heap.size, 0, none⟩) 2 2] (wa.alloc (.cells #[.int .i64 ((x.size : Int) + 2), .int .i64 3] 3)) fun e w' => e = .returned (.tuple #[.string y, .bool true]) ∧ Below (wa.heap.size + 1) (wa.alloc (.cells #[.int .i64 ((x.size : Int) + 2), .int .i64 3] 3)) w') := by
      have := bytesOf_any _ [(x.size : Int) + 2, 3] _ (Rig.new wa [(x.size : Int) + 2, 3] 3 (by simp [maxLen])) (by simp)
      rw [bof, two_all _ (by omega) (by omega), if_pos rfl, Int.add_comm (x.size : Int) 2, hy] at this
      rw [Int.add_comm (x.size : Int) 2]
      show Calls _ _ _ _ _
      simpa using this
    have hz3 : (y ++ x).size = 2 + x.size := by rw [ByteArray.size_append, hz2]
    clear hb hy
    go_wp2_with fail
    refine HC.out.mono ?_
    rintro e wb ⟨rfl, hb2⟩
    have HB2 : Hid (Below w.heap.size w wb) := (HB.out.trans ((balloc wa _).mono HB.out.size)).trans (hb2.mono (by have := HB.out.size; omega))
    clear hb2
    go_wp2
    go_ret2
    rw [HY.out]
    exact ⟨rfl, HB2.out⟩
  · rw [h0] at HW ⊢
    rw [if_neg (by decide)]
    generalize wtxt s = x at *
    clear h0
    go_enter Try.func29, Try.ntmps29
    go_wp2_with fail
    refine (HW.out _).mono ?_
    rintro e wa ⟨rfl, hb⟩
    have HB : Hid (Below w.heap.size w wa) := hb
    clear hb
    go_wp2
    go_ret2
    exact ⟨rfl, HB.out⟩
end Go.Proofs.Ytebaepkghbihkaa.desc
