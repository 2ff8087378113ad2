/- utf: what Wide answers. -/
import Derived.Test.YtebaepkghbihkaaUtfA
namespace Go.Proofs.Ytebaepkghbihkaa.utf
open Go.RowKit Go.PlainAid Go.Lib Go.Proofs.Ytebaepkghbihkaa.lane

theorem Bys.len {w : World} {B : Nat} {v : Value} {acc : List Int} (h : Bys w B v acc) : ∃ a c, v = .slice a acc.length c := by
  rcases h.2 with ⟨rfl, h0⟩ | ⟨g, cap, cur, rfl, _⟩
  · exact ⟨none, 0, by rw [h0]⟩
  · exact ⟨_, _, rfl⟩
/-- what lies from B on stands: so does the row -/
theorem Bys.same {w w' : World} {B : Nat} {v : Value} {acc : List Int} (h : Bys w B v acc) (hs : ∀ j, B ≤ j → w'.heap[j]? = w.heap[j]?) : Bys w' B v acc := by
  refine ⟨h.1, ?_⟩
  rcases h.2 with h | ⟨g, cap, cur, hv, hB, hg, h⟩
  · exact .inl h
  · exact .inr ⟨g, cap, cur, hv, hB, by rw [hs g hB]; exact hg, h⟩

def rns (s : ByteArray) : List Int := runesU s.data.toList
theorem rns_ok (s : ByteArray) : ∀ r ∈ rns s, okR r := runesU_ok _ _ (Nat.le_refl _)
theorem rns_at (s : ByteArray) (pos : Nat) (h : pos < s.size) : runesU (s.data.toList.drop pos) = ((Utf8.decode s pos).1 : Int) :: runesU (s.data.toList.drop (pos + (Utf8.decode s pos).2)) := by
  have hne : s.data.toList.drop pos ≠ [] := by
    intro h0
    have := congrArg List.length h0
    rw [List.length_drop, ← size_eq, List.length_nil] at this
    omega
  rw [runesU_step _ hne, decodeL_drop, List.drop_drop]
theorem rns_end (s : ByteArray) (pos : Nat) (h : ¬ pos < s.size) : runesU (s.data.toList.drop pos) = [] := by
  rw [List.drop_eq_nil_of_le (by rw [← size_eq]; omega)]; rfl
theorem decode_okR (s : ByteArray) (pos : Nat) : okR ((Utf8.decode s pos).1 : Int) := by rw [← decodeL_drop]; exact decodeL_ok _
theorem decode_w (s : ByteArray) (pos : Nat) : 1 ≤ (Utf8.decode s pos).2 := by rw [← decodeL_drop]; have := decodeL_width (s.data.toList.drop pos); omega

/-- what Wide answers -/
def wtxt (s : ByteArray) : ByteArray := if (wideL (rns s)).length ≤ 252 then strOfNums (wideL (rns s)) else ⟨#[]⟩
def werr (s : ByteArray) : Int := if (wideL (rns s)).length ≤ 252 then 0 else 2
theorem wide_ret {s : ByteArray} {l : List Int} (h : l = wideL (rns s)) (hl : l.length ≤ 252) : Ending.returned (.tuple #[.string (strOfNums l), .int .i64 0]) = .returned (.tuple #[.string (wtxt s), .int .i64 (werr s)]) := by
  subst h; unfold wtxt werr; rw [if_pos hl, if_pos hl]
theorem wide_big {s : ByteArray} {l r : List Int} (h : l ++ r = wideL (rns s)) (hl : 252 < l.length) : Ending.returned (.tuple #[.string ⟨#[]⟩, .int .i64 2]) = .returned (.tuple #[.string (wtxt s), .int .i64 (werr s)]) := by
  have : ¬ (wideL (rns s)).length ≤ 252 := by rw [← h, List.length_append]; omega
  unfold wtxt werr; rw [if_neg this, if_neg this]

set_option maxHeartbeats 1000000 in
theorem wide_any (s : ByteArray) (w : World) :
    Calls Try.prog 54 #[.string s] w fun e w' => e = .returned (.tuple #[.string (wtxt s), .int .i64 (werr s)]) ∧ Below w.heap.size w w' := by
  go_enter Try.func54, Try.ntmps54
  go_wp2
  go_loopw [4] (fun v wr => ∃ (pos : Nat) (acc : List Int), wr.heap[w.heap.size]? = some (.stringIter s pos) ∧ Bys wr (w.heap.size + 1) v acc ∧ acc.length ≤ 252 ∧ Below w.heap.size w wr ∧ Hid (acc ++ wideL (runesU (s.data.toList.drop pos)) = wideL (rns s)))
    (fun _ wr => s.size - wr.iterPos w.heap.size)
  case atStart => exact ⟨0, [], World.iter_heap w s 0, Bys.nil _ _, by simp, (Below.refl _ _).alloc (Nat.le_refl _) _, rfl⟩
  case round =>
    obtain ⟨pos, acc, hit, hown, hal, hbel, HR⟩ := hrel
    have hsz : w.heap.size + 1 ≤ wr.heap.size := (Array.getElem?_eq_some_iff.1 hit).1
    have hps : wr.iterPos w.heap.size = pos := by simp [World.iterPos, hit]
    by_cases hp : pos < s.size
    · have hnx : ∀ ty, (Instr.next (.pointer (some ⟨w.heap.size, 0, none⟩)) true ty).run Try.prog wr = _ := fun ty => run_next_any_at wr w.heap.size s pos ty hit hp
      have hok := decode_okR s pos
      have hwd := decode_w s pos
      have h := HR.out
      rw [rns_at s pos hp, wideL_cons, ← List.append_assoc] at h
      have hit2 := iterAt_heap wr w.heap.size s pos (pos + (Utf8.decode s pos).2) hit
      have hb2 := below_iterAt hbel (Nat.le_refl _) s (pos + (Utf8.decode s pos).2)
      have ho2 : Bys (wr.iterAt w.heap.size s (pos + (Utf8.decode s pos).2)) (w.heap.size + 1) u4 acc := Bys.same hown fun j hj => iterAt_other wr w.heap.size j s _ (by omega)
      have hz2 := iterAt_size wr w.heap.size s (pos + (Utf8.decode s pos).2)
      have hlt : pos < pos + (Utf8.decode s pos).2 := by omega
      generalize ((Utf8.decode s pos).1 : Int) = r at hnx hok h
      generalize pos + (Utf8.decode s pos).2 = pos2 at hnx hlt h hit2 hb2 ho2 hz2
      have HH : Hid (acc ++ wu r ++ wideL (runesU (s.data.toList.drop pos2)) = wideL (rns s)) := h
      have HO : Hid (Bys (wr.iterAt w.heap.size s pos2) (w.heap.size + 1) u4 acc) := ho2
      have HI : Hid ((wr.iterAt w.heap.size s pos2).heap[w.heap.size]? = some (.stringIter s pos2)) := hit2
      have HB : Hid (Below w.heap.size w (wr.iterAt w.heap.size s pos2)) := hb2
      clear h hit2 hb2 ho2 HR hown hbel hwd hit
      generalize wr.iterAt w.heap.size s pos2 = w1 at hnx HO HI HB hz2
      go_wp2_with fail
      refine (appendRune_any (w.heap.size + 1) _ acc r hok _ HO (by omega) (by omega)).mono ?_
      rintro e w2 ⟨v2, rfl, h3, h4⟩
      have hit3 : w2.heap[w.heap.size]? = some (.stringIter s pos2) := (h4.block w.heap.size (by omega)).trans HI.out
      have hbel3 : Below w.heap.size w w2 := HB.out.trans (h4.mono (by omega))
      obtain ⟨ac2, hac⟩ : ∃ a, a = acc ++ wu r := ⟨_, rfl⟩
      have HH2 := HH.out
      rw [← hac] at h3 HH2
      clear hac HH
      have HH : Hid (ac2 ++ wideL (runesU (s.data.toList.drop pos2)) = wideL (rns s)) := HH2
      clear HH2
      obtain ⟨a3, c3, rfl⟩ := Bys.len h3
      have hps2 : w2.iterPos w.heap.size = pos2 := by simp [World.iterPos, hit3]
      by_cases hbig : ac2.length ≤ 252
      · go_wp2
        go_roundw
        case rel => exact ⟨pos2, ac2, hit3, h3, hbig, hbel3, HH.out⟩
        case measure => rw [hps, hps2]; omega
      · go_wp2
        go_ret2
        exact ⟨wide_big HH.out (by omega), hbel3⟩
    · have hnx : ∀ ty, (Instr.next (.pointer (some ⟨w.heap.size, 0, none⟩)) true ty).run Try.prog wr = _ := fun ty => run_next_end_at wr w.heap.size s pos ty hit hp
      have hcv := hown.conv
      go_wp2
      go_ret2
      have h := HR.out
      rw [rns_end s pos hp, wideL_nil, List.append_nil] at h
      exact ⟨wide_ret h hal, hbel⟩
end Go.Proofs.Ytebaepkghbihkaa.utf
