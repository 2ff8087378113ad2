/- plugkeep: what utfLives and runesOf answer. -/
import Derived.Test.YtebaepkghbihkaaUtfB
namespace Go.Proofs.Ytebaepkghbihkaa.utf
open Go.RowKit Go.PlainAid Go.Lib Go.Proofs.Ytebaepkghbihkaa.lane

theorem bsq {w w1 w2 : World} (h1 : Below w.heap.size w w1) (h2 : Below w1.heap.size w1 w2) : Below w.heap.size w w2 := h1.trans (h2.mono h1.size)

theorem encode_eq (r : Int) (h : okR r) : Utf8.encode r = strOfNums (encodeRuneZ r) := by
  unfold okR at h
  have hv : Utf8.valid r = true := by
    unfold Utf8.valid
    rw [Bool.or_eq_true, Bool.and_eq_true, Bool.and_eq_true, decide_eq_true_eq, decide_eq_true_eq, decide_eq_true_eq, decide_eq_true_eq]
    omega
  have key : ∀ (z : Int) (n : Nat), z = (n : Int) → UInt8.ofNat n = UInt8.ofNat z.toNat := fun z n e => by rw [e]; rfl
  unfold Utf8.encode
  simp only [hv, if_true]
  by_cases h1 : r ≤ 127
  · rw [if_pos (by omega), encodeRuneZ_one (by omega) h1]; rfl
  · rw [if_neg (by omega)]
    by_cases h2 : r ≤ 2047
    · rw [if_pos (by omega), encodeRuneZ_two (by omega) h2, key (192 + r / 64) (192 + r.toNat / 64) (by omega), key (128 + r % 64) (128 + r.toNat % 64) (by omega)]; rfl
    · rw [if_neg (by omega)]
      by_cases h3 : r ≤ 65535
      · rw [if_pos (by omega), encodeRuneZ_three (by omega), key (224 + r / 4096) (224 + r.toNat / 4096) (by omega), key (128 + r / 64 % 64) (128 + r.toNat / 64 % 64) (by omega), key (128 + r % 64) (128 + r.toNat % 64) (by omega)]; rfl
      · rw [if_neg (by omega), encodeRuneZ_four (by omega) (by omega), key (240 + r / 262144) (240 + r.toNat / 262144) (by omega), key (128 + r / 4096 % 64) (128 + r.toNat / 4096 % 64) (by omega), key (128 + r / 64 % 64) (128 + r.toNat / 64 % 64) (by omega), key (128 + r % 64) (128 + r.toNat % 64) (by omega)]; rfl

theorem conv_rune (r : Int) (h : okR r) (w : World) : (convert 21 9 (.int .i32 r)).run Try.prog w = .ok (.string (strOfNums (encodeRuneZ r))) w := by
  rw [← encode_eq r h]
  simp [convert, run_underlying Try.underlying21, run_underlying Try.underlying9, Conv.intToString]
def clean (s : ByteArray) : ByteArray := strOfNums (encs (rns s))
set_option maxHeartbeats 1000000 in
theorem runesOf_any (s : ByteArray) (w : World) (hs : s.size ≤ 140737488351232) : Calls Try.prog 22 #[.string s] w fun e w' => e = .returned (.string (clean s)) ∧ Below w.heap.size w w' := by
  have hlen : (encs (rns s)).length ≤ 4 * s.size := by
    have h1 := (encs_length (rns s)).2
    have h2 := runesU_length _ s.data.toList (Nat.le_refl _)
    rw [← size_eq] at h2
    unfold rns at h1 ⊢
    omega
  have HM : Hid ((encs (rns s)).length ≤ 4000000000000000) := by show _ ≤ _; omega
  clear hlen
  go_enter Try.func22, Try.ntmps22
  go_wp2
  go_loopw [3] (fun v wr => ∃ (pos : Nat) (acc : ByteArray), wr = w.iter s pos ∧ v = .string acc ∧ Hid (acc ++ strOfNums (encs (runesU (s.data.toList.drop pos))) = clean s))
    (fun _ wr => s.size - wr.iterPos w.heap.size)
  case atStart => exact ⟨0, ⟨#[]⟩, rfl, rfl, by show _ = _; apply ByteArray.ext; simp [clean, rns]⟩
  case round =>
    obtain ⟨pos, acc, rfl, rfl, HR⟩ := hrel
    have hal : acc.size ≤ 4000000000000000 := by
      have h := congrArg ByteArray.size HR.out
      rw [ByteArray.size_append] at h
      unfold clean at h
      rw [str_size (encs (rns s))] at h
      have := HM.out
      omega
    by_cases hp : pos < s.size
    · have hnx : ∀ ty, (Instr.next (.pointer (some ⟨w.heap.size, 0, none⟩)) true ty).run Try.prog (w.iter s pos) = _ := fun ty => run_next_any w s pos ty hp
      have hok := decode_okR s pos
      have hwd := decode_w s pos
      have h := HR.out
      rw [rns_at s pos hp, encs_cons, str_append, ← ByteArray.append_assoc] at h
      have hlt : pos < pos + (Utf8.decode s pos).2 := by omega
      generalize ((Utf8.decode s pos).1 : Int) = r at hnx hok h
      generalize pos + (Utf8.decode s pos).2 = pos2 at hnx hlt h
      have HH : Hid (acc ++ strOfNums (encodeRuneZ r) ++ strOfNums (encs (runesU (s.data.toList.drop pos2))) = clean s) := h
      have hcv := conv_rune r hok
      have hel := (encodeRuneZ_length r).2
      have hz : (strOfNums (encodeRuneZ r)).size ≤ 4 := by rw [str_size]; exact hel
      obtain ⟨x, hx⟩ : ∃ x, strOfNums (encodeRuneZ r) = x := ⟨_, rfl⟩
      rw [hx] at hcv hz HH
      have hzz : (acc ++ x).size = acc.size + x.size := ByteArray.size_append
      clear h HR hwd hx hel
      go_wp2
      go_roundw
      case rel => exact ⟨pos2, acc ++ x, rfl, rfl, HH⟩
      case measure => simp; omega
    · have hnx : ∀ ty, (Instr.next (.pointer (some ⟨w.heap.size, 0, none⟩)) true ty).run Try.prog (w.iter s pos) = _ := fun ty => run_next_end w s pos ty hp
      go_wp2
      go_ret
      have h := HR.out
      rw [rns_end s pos hp] at h
      refine ⟨?_, (Below.refl _ _).alloc (Nat.le_refl _) _⟩
      have e : acc ++ strOfNums (encs []) = acc := by apply ByteArray.ext; simp [encs, strOfNums]
      rw [e] at h
      rw [← h]; rfl
end Go.Proofs.Ytebaepkghbihkaa.utf
