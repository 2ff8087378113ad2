/- utf: what Narrow answers. -/
import Derived.Test.YtonheibhbilhhaaZAa
import Derived.Test.YtonheibhbilhhaaShelfU
namespace Go.Proofs.Ytonheibhbilhhaa.utf
open Go.RowKit Go.PlainAid Go.Lib Go.Proofs.Ytonheibhbilhhaa.lane

theorem Bys.keep {w w' : World} {B : Nat} {v : Value} {acc : List Int} (h : Bys w B v acc) (hb : Below w.heap.size w w') : Bys w' B v acc := by
  refine ⟨h.1, ?_⟩
  rcases h.2 with h | ⟨g, cap, cur, hv, hB, hg, h⟩
  · exact .inl h
  · refine .inr ⟨g, cap, cur, hv, hB, ?_, h⟩
    have hlt : g < w.heap.size := by
      rcases Nat.lt_or_ge g w.heap.size with hl | hl
      · exact hl
      · rw [Array.getElem?_eq_none hl] at hg; cases hg
    rw [hb.block g hlt]; exact hg

set_option maxHeartbeats 1000000 in
theorem uAppend_any (B : Nat) (v : Value) (acc : List Int) (r : Int) (hr : okR r) (w : World) (H : Hid (Bys w B v acc)) (hB : B ≤ w.heap.size) (hl : acc.length ≤ 10000) :
    Calls Try.prog 110 #[v, .int .i32 r] w fun e w' => ∃ v', e = .returned v' ∧ Bys w' B v' (acc ++ encodeRuneZ r) ∧ Below B w w' := by
  unfold okR at hr
  refine (Try.utf8_AppendRune_plain B v acc.length (acc.map (Value.int .u8)) r (by omega) (by omega) w H.out (by omega) hB).mono ?_
  rintro e w' ⟨v', rfl, h2, o, h3⟩
  refine ⟨v', rfl, ?_, ((Below.refl _ _).alloc hB _).grown h3 (by simp; omega) H.out.block⟩
  unfold Bys
  rw [List.length_append, List.map_append]
  simpa [runeCells] using h2

/-- the runes of a wide text -/
def prs (t : ByteArray) : List Int := pairL (unitsL (nums t))
theorem prs_ok (t : ByteArray) : ∀ r ∈ prs t, okR r := (pairL_ok _ (unitsL_bound _ (nums_byt t))).1
theorem prs_cnt (t : ByteArray) (he : t.size % 2 = 0) : 2 * cnt (prs t) = t.size := by
  have h1 := (pairL_ok _ (unitsL_bound _ (nums_byt t))).2
  have h2 := unitsL_length (nums t) (by rw [nums_length]; exact he)
  rw [nums_length] at h2
  unfold prs; omega
theorem prs_len (t : ByteArray) (he : t.size % 2 = 0) : (encs (prs t)).length ≤ 2 * t.size := by
  have := prs_cnt t he
  have := (encs_length (prs t)).2
  have := (cnt_le (prs t)).1
  omega
theorem prs_front (t : ByteArray) (h : 2 ≤ t.size) (he : t.size % 2 = 0) : prs t = (frL (nums t)).1 :: prs (t.extract (frL (nums t)).2 t.size) := by
  unfold prs
  rw [nums_extract, List.take_of_length_le (by rw [nums_length]; exact Nat.le_refl _)]
  exact pair_front _ (by rw [nums_length]; exact h) (by rw [nums_length]; exact he)
theorem prs_nil : prs ⟨#[]⟩ = [] := by
  show pairL (unitsL []) = []
  rw [unitsL_nil, pairL_nil]

/-- what Narrow answers -/
def nerr (t : ByteArray) : Int := if t.size % 2 = 1 then 4 else if 252 < t.size then 2 else 0
def ntxt (t : ByteArray) : ByteArray := if t.size % 2 = 1 then ⟨#[]⟩ else if 252 < t.size then ⟨#[]⟩ else strOfNums (encs (prs t))
theorem ntxt_ok {t : ByteArray} (he : t.size % 2 = 0) (hl : t.size ≤ 252) : ntxt t = strOfNums (encs (prs t)) ∧ nerr t = 0 := by
  unfold ntxt nerr; rw [if_neg (by omega), if_neg (by omega), if_neg (by omega), if_neg (by omega)]; exact ⟨rfl, rfl⟩
theorem ntxt_odd {t : ByteArray} (he : t.size % 2 = 1) : ntxt t = ⟨#[]⟩ ∧ nerr t = 4 := by
  unfold ntxt nerr; rw [if_pos he, if_pos he]; exact ⟨rfl, rfl⟩
theorem ntxt_big {t : ByteArray} (he : t.size % 2 = 0) (hl : 252 < t.size) : ntxt t = ⟨#[]⟩ ∧ nerr t = 2 := by
  unfold ntxt nerr; simp [he, hl]
def szOf : Value → Nat
  | .string s => s.size
  | _ => 0
theorem size_zero {t : ByteArray} (h : t.size = 0) : t = ⟨#[]⟩ := by
  apply ByteArray.ext
  apply Array.ext'
  apply List.eq_nil_of_length_eq_zero
  rw [← size_eq]; exact h
theorem ret_si {a b : ByteArray} {c d : Int} (h1 : a = b) (h2 : c = d) :
    Ending.returned (.tuple #[.string a, .int .i64 c]) = .returned (.tuple #[.string b, .int .i64 d]) := by rw [h1, h2]

set_option maxHeartbeats 1000000 in
theorem narrow_any (t : ByteArray) (w : World) (hm : t.size ≤ maxLen) :
    Calls Try.prog 92 #[.string t] w fun e w' => e = .returned (.tuple #[.string (ntxt t), .int .i64 (nerr t)]) ∧ Below w.heap.size w w' := by
  unfold maxLen at hm
  by_cases he : t.size % 2 = 1
  · rw [(ntxt_odd he).1, (ntxt_odd he).2]
    have hz : (t.size : Int) % 2 = 1 := by omega
    clear he
    go_enter Try.func92, Try.ntmps92
    go_wp2
    go_ret2
    exact ⟨rfl, Below.refl _ _⟩
  · have he : t.size % 2 = 0 := by omega
    have hz : (t.size : Int) % 2 = 0 := by omega
    by_cases hl : 252 < t.size
    · rw [(ntxt_big he hl).1, (ntxt_big he hl).2]
      clear he
      have hl2 : (252 : Int) < t.size := by omega
      clear hl
      go_enter Try.func92, Try.ntmps92
      go_wp2
      go_ret2
      exact ⟨rfl, Below.refl _ _⟩
    · have hok := ntxt_ok he (by omega)
      rw [hok.1, hok.2]
      have hmax := prs_len t he
      have HM : Hid ((encs (prs t)).length ≤ 504) := by show _ ≤ _; omega
      clear hok hmax
      have HE : Hid (t.size % 2 = 0) := he
      clear he
      go_enter Try.func92, Try.ntmps92
      go_wp2
      go_loopw [0, 4] (fun s0 v wr => ∃ (t' : ByteArray) (acc : List Int), s0 = .string t' ∧ Bys wr w.heap.size v acc ∧ t'.size ≤ 252 ∧ Below w.heap.size w wr ∧ Hid (t'.size % 2 = 0 ∧ acc ++ encs (prs t') = encs (prs t)))
        (fun s0 _ _ => szOf s0)
      case atStart => exact ⟨t, [], rfl, Bys.nil _ _, by omega, Below.refl _ _, HE.out, rfl⟩
      case round =>
        obtain ⟨t', acc, rfl, hown, hl', hbel, HR⟩ := hrel
        clear hz
        by_cases h0 : t'.size = 0
        · obtain rfl := size_zero h0
          have hcv := hown.conv
          go_wp2
          go_ret2
          have h := HR.out.2
          rw [prs_nil, encs_nil, List.append_nil] at h
          exact ⟨ret_si (by rw [h]) rfl, hbel⟩
        · have h2 : 2 ≤ t'.size := by have := HR.out.1; omega
          have hfr := prs_front t' h2 HR.out.1
          have hf2 := frL_two (nums t')
          rw [nums_length] at hf2
          have hne : t'.toList.isEmpty = false := str_full t' (by omega)
          have hrok : okR (frL (nums t')).1 := prs_ok t' _ (by rw [hfr]; simp)
          have HF : Hid (∀ w : World, Calls Try.prog 109 #[.string t'] w fun e w' => e = .returned (.tuple #[.int .i32 (frL (nums t')).1, .int .i64 ((frL (nums t')).2 : Nat)]) ∧ Below w.heap.size w w') := fun w => frontRune_any t' w h2 HR.out.1
          generalize (frL (nums t')).1 = r at hfr hrok HF
          generalize (frL (nums t')).2 = n at hfr hf2 HF
          have hn : n ≤ t'.size := by omega
          have hnp : 2 ≤ n := by omega
          have hxs : (t'.extract n t'.size).size = t'.size - n := by rw [ByteArray.size_extract]; omega
          obtain ⟨t2, ht2⟩ : ∃ t2, t'.extract n t'.size = t2 := ⟨_, rfl⟩
          rw [ht2] at hfr hxs
          have HQ : Hid (t2.size % 2 = 0 ∧ (acc ++ encodeRuneZ r) ++ encs (prs t2) = encs (prs t)) := by
            have h := HR.out
            rw [hfr, encs_cons, ← List.append_assoc] at h
            refine ⟨?_, h.2⟩
            have := h.1; omega
          have hal : acc.length ≤ 504 := by
            have h := congrArg List.length HR.out.2
            rw [List.length_append] at h
            have := HM.out; omega
          have HO : Hid (Bys wr w.heap.size u4 acc) := hown
          have hsz := hbel.size
          clear HR hfr hown hf2
          go_wp2_with fail
          refine (HF.out _).mono ?_
          rintro e w1 ⟨rfl, hb1⟩
          have H1 : Hid (Bys w1 w.heap.size u4 acc) := Bys.keep HO.out hb1
          have hs1 := hb1.size
          go_wp2_with fail
          refine (uAppend_any w.heap.size _ acc r hrok _ H1 (by omega) (by omega)).mono ?_
          rintro e w2 ⟨v2, rfl, h3, h4⟩
          go_wp2
          go_roundw
          case rel => exact ⟨t2, acc ++ encodeRuneZ r, rfl, h3, by omega, (hbel.trans (hb1.mono hsz)).trans h4, HQ⟩
          case measure => show t2.size < t'.size; omega
end Go.Proofs.Ytonheibhbilhhaa.utf

/- plugkeep: what utfLives and runesOf answer. -/
namespace Go.Proofs.Ytonheibhbilhhaa.utf
open Go.RowKit Go.PlainAid Go.Lib Go.Proofs.Ytonheibhbilhhaa.lane

theorem bsq {w w1 w2 : World} (h1 : Below w.heap.size w w1) (h2 : Below w1.heap.size w1 w2) : Below w.heap.size w w2 := h1.trans (h2.mono h1.size)

theorem encode_eq (r : Int) (h : okR r) : Utf8.encode r = strOfNums (encodeRuneZ r) := by
  unfold okR at h
  have hv : Utf8.valid r = true := by
    unfold Utf8.valid
    rw [Bool.or_eq_true, Bool.and_eq_true, Bool.and_eq_true, decide_eq_true_eq, decide_eq_true_eq, decide_eq_true_eq, decide_eq_true_eq]
    omega
  have key : ∀ (z : Int) (n : Nat), z = (n : Int) → UInt8.ofNat n = UInt8.ofNat z.toNat := fun z n e => by rw [e]; rfl
  unfold Utf8.encode
  simp only [hv, if_true]
  by_cases h1 : r ≤ 127
  · rw [if_pos (by omega), encodeRuneZ_one (by omega) h1]; rfl
  · rw [if_neg (by omega)]
    by_cases h2 : r ≤ 2047
    · rw [if_pos (by omega), encodeRuneZ_two (by omega) h2, key (192 + r / 64) (192 + r.toNat / 64) (by omega), key (128 + r % 64) (128 + r.toNat % 64) (by omega)]; rfl
    · rw [if_neg (by omega)]
      by_cases h3 : r ≤ 65535
      · rw [if_pos (by omega), encodeRuneZ_three (by omega), key (224 + r / 4096) (224 + r.toNat / 4096) (by omega), key (128 + r / 64 % 64) (128 + r.toNat / 64 % 64) (by omega), key (128 + r % 64) (128 + r.toNat % 64) (by omega)]; rfl
      · rw [if_neg (by omega), encodeRuneZ_four (by omega) (by omega), key (240 + r / 262144) (240 + r.toNat / 262144) (by omega), key (128 + r / 4096 % 64) (128 + r.toNat / 4096 % 64) (by omega), key (128 + r / 64 % 64) (128 + r.toNat / 64 % 64) (by omega), key (128 + r % 64) (128 + r.toNat % 64) (by omega)]; rfl

theorem conv_rune (r : Int) (h : okR r) (w : World) : (convert 21 9 (.int .i32 r)).run Try.prog w = .ok (.string (strOfNums (encodeRuneZ r))) w := by
  rw [← encode_eq r h]
  simp [convert, run_underlying Try.underlying21, run_underlying Try.underlying9, Conv.intToString]
def clean (s : ByteArray) : ByteArray := strOfNums (encs (rns s))
set_option maxHeartbeats 1000000 in
theorem runesOf_any (s : ByteArray) (w : World) (hs : s.size ≤ 140737488351232) : Calls Try.prog 21 #[.string s] w fun e w' => e = .returned (.string (clean s)) ∧ Below w.heap.size w w' := by
  have hlen : (encs (rns s)).length ≤ 4 * s.size := by
    have h1 := (encs_length (rns s)).2
    have h2 := runesU_length _ s.data.toList (Nat.le_refl _)
    rw [← size_eq] at h2
    unfold rns at h1 ⊢
    omega
  have HM : Hid ((encs (rns s)).length ≤ 4000000000000000) := by show _ ≤ _; omega
  clear hlen
  go_enter Try.func21, Try.ntmps21
  go_wp2
  go_loopw [3] (fun v wr => ∃ (pos : Nat) (acc : ByteArray), wr = w.iter s pos ∧ v = .string acc ∧ Hid (acc ++ strOfNums (encs (runesU (s.data.toList.drop pos))) = clean s))
    (fun _ wr => s.size - wr.iterPos w.heap.size)
  case atStart => exact ⟨0, ⟨#[]⟩, rfl, rfl, by show _ = _; apply ByteArray.ext; simp [clean, rns]⟩
  case round =>
    obtain ⟨pos, acc, rfl, rfl, HR⟩ := hrel
    have hal : acc.size ≤ 4000000000000000 := by
      have h := congrArg ByteArray.size HR.out
      rw [ByteArray.size_append] at h
      unfold clean at h
      rw [str_size (encs (rns s))] at h
      have := HM.out
      omega
    by_cases hp : pos < s.size
    · have hnx : ∀ ty, (Instr.next (.pointer (some ⟨w.heap.size, 0, none⟩)) true ty).run Try.prog (w.iter s pos) = _ := fun ty => run_next_any w s pos ty hp
      have hok := decode_okR s pos
      have hwd := decode_w s pos
      have h := HR.out
      rw [rns_at s pos hp, encs_cons, str_append, ← ByteArray.append_assoc] at h
      have hlt : pos < pos + (Utf8.decode s pos).2 := by omega
      generalize ((Utf8.decode s pos).1 : Int) = r at hnx hok h
      generalize pos + (Utf8.decode s pos).2 = pos2 at hnx hlt h
      have HH : Hid (acc ++ strOfNums (encodeRuneZ r) ++ strOfNums (encs (runesU (s.data.toList.drop pos2))) = clean s) := h
      have hcv := conv_rune r hok
      have hel := (encodeRuneZ_length r).2
      have hz : (strOfNums (encodeRuneZ r)).size ≤ 4 := by rw [str_size]; exact hel
      obtain ⟨x, hx⟩ : ∃ x, strOfNums (encodeRuneZ r) = x := ⟨_, rfl⟩
      rw [hx] at hcv hz HH
      have hzz : (acc ++ x).size = acc.size + x.size := ByteArray.size_append
      clear h HR hwd hx hel
      go_wp2
      go_roundw
      case rel => exact ⟨pos2, acc ++ x, rfl, rfl, HH⟩
      case measure => simp; omega
    · have hnx : ∀ ty, (Instr.next (.pointer (some ⟨w.heap.size, 0, none⟩)) true ty).run Try.prog (w.iter s pos) = _ := fun ty => run_next_end w s pos ty hp
      go_wp2
      go_ret
      have h := HR.out
      rw [rns_end s pos hp] at h
      refine ⟨?_, (Below.refl _ _).alloc (Nat.le_refl _) _⟩
      have e : acc ++ strOfNums (encs []) = acc := by apply ByteArray.ext; simp [encs, strOfNums]
      rw [e] at h
      rw [← h]; rfl
end Go.Proofs.Ytonheibhbilhhaa.utf
