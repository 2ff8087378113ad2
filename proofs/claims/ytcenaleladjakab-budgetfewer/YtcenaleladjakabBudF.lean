/- budget: what slices.SortStableFunc does to a row of numbers. -/
import Derived.Test.YtcenaleladjakabBudE
namespace Go.Proofs.Ytcenaleladjakab.budget
open Go Go.RowKit
set_option linter.unusedVariables false
set_option linter.unusedSimpArgs false
set_option maxRecDepth 100000

/-- the row while blocks of k are sorted: X is done, r is to be done -/
structure Fst (K : Int → Int) (g : Nat) (w u : World) (l X r : List Int) : Prop where
  row : Sw g w u (X ++ r)
  dn : Dn K 20 l X r
  asc : r.Pairwise (· < ·)
structure Snd (K : Int → Int) (g k : Nat) (w u : World) (l X r : List Int) : Prop where
  row : Sw g w u (X ++ r)
  dn : Dn K (2 * k) l X r
  ch : Ch K k r
theorem Fst.next {K : Int → Int} {g : Nat} {w u v : World} {l X r M : List Int} (h : Fst K g w u l X r) (hk : 20 ≤ r.length) (hS : Sw g u v (X ++ (M ++ r.drop 20))) (hM : M.Perm (r.take 20)) (sM : Srt K M) : Fst K g w v l (X ++ M) (r.drop 20) where
  row := by have := h.row.then hS; simpa using this
  dn := by
    have := h.dn
    rw [← List.take_append_drop 20 r] at this
    exact this.next hM sM (by simp; omega) (asc_srt_low (by rw [List.take_append_drop]; exact h.asc))
  asc := List.Pairwise.sublist (List.drop_sublist ..) h.asc
theorem Snd.two {K : Int → Int} {g k : Nat} {w u : World} {l X r : List Int} (h : Snd K g k w u l X r) (hk : 2 * k ≤ r.length) : ∃ L R q, r = L ++ (R ++ q) ∧ L.length = k ∧ R.length = k ∧ Srt K L ∧ Srt K R ∧ Low L R ∧ Low (L ++ R) q ∧ Ch K k q := by
  obtain ⟨L, r1, e1, a1, a2, a3, a4⟩ := h.ch.cut (by omega)
  have hl : r.length = k + r1.length := by rw [e1, List.length_append, a1]
  obtain ⟨R, q, e2, b1, b2, b3, b4⟩ := a4.cut (by omega)
  rw [e2] at e1 a3
  exact ⟨L, R, q, e1, a1, b1, a2, b2, a3.of_app.1, Low.app a3.of_app.2 b3, b4⟩
theorem Snd.next {K : Int → Int} {g k : Nat} {w u v : World} {l X r L R q M : List Int} (h : Snd K g k w u l X r) (e : r = L ++ (R ++ q)) (hL : L.length = k) (hR : R.length = k) (hq : Low (L ++ R) q) (hc : Ch K k q) (hS : Sw g u v (X ++ (M ++ q))) (hM : M.Perm (L ++ R)) (sM : Srt K M) : Snd K g k w v l (X ++ M) q where
  row := by have := h.row.then hS; simpa using this
  dn := by
    have := h.dn
    rw [e, ← List.append_assoc] at this
    exact this.next hM sM (by simp; omega) hq
  ch := hc
theorem Snd.one {K : Int → Int} {g k : Nat} {w u : World} {l X r : List Int} (h : Snd K g k w u l X r) (hk : k < r.length) (hk2 : r.length < 2 * k) : ∃ L R, r = L ++ R ∧ L.length = k ∧ 1 ≤ R.length ∧ Srt K L ∧ Srt K R ∧ Low L R := by
  obtain ⟨L, r1, e1, a1, a2, a3, a4⟩ := h.ch.cut (by omega)
  have hl : r.length = k + r1.length := by rw [e1, List.length_append, a1]
  exact ⟨L, r1, e1, a1, by omega, a2, a4.srt (by omega), a3⟩
theorem Fst.len {K : Int → Int} {g : Nat} {w u : World} {l X r : List Int} (h : Fst K g w u l X r) : X.length + r.length = l.length := by rw [← h.dn.perm.length_eq, List.length_append]
theorem Snd.len {K : Int → Int} {g k : Nat} {w u : World} {l X r : List Int} (h : Snd K g k w u l X r) : X.length + r.length = l.length := by rw [← h.dn.perm.length_eq, List.length_append]
theorem Fst.mem {K : Int → Int} {g : Nat} {w u : World} {l X r : List Int} (h : Fst K g w u l X r) : ∀ x ∈ r, x ∈ l := fun x hx => h.dn.perm.mem_iff.1 (List.mem_append_right _ hx)
theorem Snd.mem {K : Int → Int} {g k : Nat} {w u : World} {l X r : List Int} (h : Snd K g k w u l X r) : ∀ x ∈ r, x ∈ l := fun x hx => h.dn.perm.mem_iff.1 (List.mem_append_right _ hx)
set_option maxHeartbeats 4000000 in
theorem stable_any (g X : Nat) (N : Int) (K : Int → Int) (l : List Int) (n : Nat) (w : World) (hw : w.heap[g]? = some (bv 3 (ivs l))) (hn : l.length = n) (hn2 : n ≤ 1000) (hL : l.Pairwise (· < ·)) (hr : ∀ x ∈ l, 0 ≤ x ∧ x < N) (hC : Cmp g X N K w) :
    Calls Try.prog 25 #[.slice (some ⟨g, 0, none⟩) n n, .int .i64 (n : Int), cmpF X] w fun e u => e = .returned (.tuple #[]) ∧ ∃ M, Sw g w u M ∧ M.Perm l ∧ Srt K M := by
  have HI : Hid (∀ (u : World) (Y r : List Int) (a b : Nat), Fst K g w u l Y r → Y.length = a → a + 20 = b → b ≤ n → Calls Try.prog 26 #[.slice (some ⟨g, 0, none⟩) n n, .int .i64 (a : Int), .int .i64 (b : Int), cmpF X] u fun e v => e = .returned (.tuple #[]) ∧ ∃ Y r, Fst K g w v l Y r ∧ Y.length = b) := fun u Y r a b h ha hb hbn => by
    have hlen := h.len
    have hrow := h.row.lies
    rw [← List.take_append_drop 20 r] at hrow
    refine (insertion_any g X N K Y (r.take 20) (r.drop 20) n a b u hrow ha (by simp; omega) (by simp; omega) hn2 (List.Pairwise.sublist (List.take_sublist ..) h.asc) (fun x hx => hr x (h.mem x (List.mem_of_mem_take hx))) (hC.on h.row.chg)).mono ?_
    rintro e v ⟨rfl, M, h1, h2, h3⟩
    exact ⟨rfl, Y ++ M, r.drop 20, h.next (by omega) h1 h2 h3, by have := h2.length_eq; simp at this ⊢; omega⟩
  have HJ : Hid (∀ (u : World) (Y r : List Int) (a : Nat), Fst K g w u l Y r → Y.length = a → ¬ a + 20 ≤ n → Calls Try.prog 26 #[.slice (some ⟨g, 0, none⟩) n n, .int .i64 (a : Int), .int .i64 (n : Int), cmpF X] u fun e v => e = .returned (.tuple #[]) ∧ ∃ M, Sw g w v M ∧ Ch K 20 M ∧ M.Perm l) := fun u Y r a h ha hbn => by
    have hlen := h.len
    have hrow := h.row.lies
    rw [← List.append_nil r] at hrow
    refine (insertion_any g X N K Y r [] n a n u hrow ha (by omega) (by simp; omega) hn2 h.asc (fun x hx => hr x (h.mem x hx)) (hC.on h.row.chg)).mono ?_
    rintro e v ⟨rfl, M, h1, h2, h3⟩
    exact ⟨rfl, Y ++ M, by have := h.row.then h1; simpa using this, (h.dn.done h2 h3 (by omega)).1, (h.dn.done h2 h3 (by omega)).2⟩
  have HK : Hid (∀ (u : World) (Y r : List Int) (k a m b : Nat), 1 ≤ k → Snd K g k w u l Y r → Y.length = a → a + k = m → a + 2 * k = b → b ≤ n → Calls Try.prog 27 #[.slice (some ⟨g, 0, none⟩) n n, .int .i64 (a : Int), .int .i64 (m : Int), .int .i64 (b : Int), cmpF X] u fun e v => e = .returned (.tuple #[]) ∧ ∃ Y r, Snd K g k w v l Y r ∧ Y.length = b) := fun u Y r k a m b hk h ha hm hb hbn => by
    have hlen := h.len
    obtain ⟨L, R, q, e1, a1, a2, a3, a4, a5, a6, a7⟩ := h.two (by omega)
    have hrow := h.row.lies
    rw [e1] at hrow
    have hlr : r.length = k + (k + q.length) := by rw [e1]; simp; omega
    refine (sym_any g X N K _ Y L R q n a m b u (Nat.le_refl _) hrow ha (by omega) (by omega) (by omega) (by omega) (by simp; omega) hn2 a3 a4 a5 (fun x hx => hr x (h.mem x (by rw [e1]; simp at hx ⊢; rcases hx with z | z <;> simp [z]))) (hC.on h.row.chg)).mono ?_
    rintro e v ⟨rfl, M, h1, h2, h3⟩
    exact ⟨rfl, Y ++ M, q, h.next e1 a1 a2 a6 a7 h1 h2 h3, by have := h2.length_eq; simp at this ⊢; omega⟩
  have HL : Hid (∀ (u : World) (Y r : List Int) (k a m : Nat), 1 ≤ k → Snd K g k w u l Y r → Y.length = a → a + k = m → ¬ a + 2 * k ≤ n → m < n → Calls Try.prog 27 #[.slice (some ⟨g, 0, none⟩) n n, .int .i64 (a : Int), .int .i64 (m : Int), .int .i64 (n : Int), cmpF X] u fun e v => e = .returned (.tuple #[]) ∧ ∃ M, Sw g w v M ∧ Ch K (2 * k) M ∧ M.Perm l) := fun u Y r k a m hk h ha hm hb hmn => by
    have hlen := h.len
    obtain ⟨L, R, e1, a1, a2, a3, a4, a5⟩ := h.one (by omega) (by omega)
    have hrow := h.row.lies
    rw [e1, ← List.append_nil R] at hrow
    have hlr : r.length = k + R.length := by rw [e1]; simp; omega
    refine (sym_any g X N K _ Y L R [] n a m n u (Nat.le_refl _) hrow ha (by omega) (by omega) (by omega) (by omega) (by simp; omega) hn2 a3 a4 a5 (fun x hx => hr x (h.mem x (by rw [e1]; exact hx))) (hC.on h.row.chg)).mono ?_
    rintro e v ⟨rfl, M, h1, h2, h3⟩
    rw [← e1] at h2
    exact ⟨rfl, Y ++ M, by have := h.row.then h1; simpa using this, (h.dn.done h2 h3 (by omega)).1, (h.dn.done h2 h3 (by omega)).2⟩
  have HM : Hid (∀ (u : World) (Y r : List Int) (k a : Nat), Snd K g k w u l Y r → Y.length = a → ¬ a + k < n → ∃ M, Sw g w u M ∧ Ch K (2 * k) M ∧ M.Perm l) := fun u Y r k a h ha hk => by
    have hlen := h.len
    exact ⟨Y ++ r, h.row, (h.dn.done (List.Perm.refl _) (h.ch.srt (by omega)) (by omega)).1, h.dn.perm⟩
  have HW : Hid (∃ Y r, Fst K g w w l Y r ∧ Y.length = 0) := ⟨[], l, ⟨by simpa using Sw.refl hw, Dn.start _ _, hL⟩, rfl⟩
  have HN : Hid (∀ u k, (∃ M, Sw g w u M ∧ Ch K k M ∧ M.Perm l) → ∃ Y r, (∃ M, Sw g w u M ∧ M.Perm l ∧ Y ++ r = M) ∧ Ch K k (Y ++ r) ∧ Y.length = 0) := fun u k ⟨M, h1, h2, h3⟩ => ⟨[], M, ⟨M, h1, h3, rfl⟩, h2, rfl⟩
  have HSt : Hid (∀ u k M, Sw g w u M → Ch K k M → M.Perm l → ∃ Y r, Snd K g k w u M Y r ∧ Y.length = 0) := fun u k M h1 h2 h3 => ⟨[], M, ⟨by simpa using h1, Dn.start _ _, h2⟩, rfl⟩
  have HSt2 : Hid (∀ u k, (∃ M, Sw g w u M ∧ Ch K k M ∧ M.Perm l) → ∃ Y r, Snd K g k w u l Y r ∧ Y.length = 0) := fun u k ⟨M, h1, h2, h3⟩ => ⟨[], M, ⟨by simpa using h1, ⟨fun r' hr' hc => by simpa using hc, by simpa using h3⟩, h2⟩, rfl⟩
  have HE : Hid (∀ u k, ¬ k < n → (∃ M, Sw g w u M ∧ Ch K k M ∧ M.Perm l) → ∃ M, Sw g w u M ∧ M.Perm l ∧ Srt K M) := fun u k hk ⟨M, h1, h2, h3⟩ => ⟨M, h1, h3, h2.srt (by rw [h3.length_eq, hn]; omega)⟩
  clear hw hL hr hC HN HSt hn
  go_enter Try.func25, Try.ntmps25
  go_wp2
  go_loopw [7, 8] (fun av bv wr => ∃ a b : Nat, a ≤ 1000 ∧ a + 20 = b ∧ av = .int .i64 (a : Int) ∧ bv = .int .i64 (b : Int) ∧ Hid (∃ Y r, Fst K g w wr l Y r ∧ Y.length = a)) (fun av _ _ => 1000 - (intOf av).toNat)
  case atStart => exact ⟨0, 20, by omega, rfl, rfl, rfl, HW.out⟩
  case round =>
    clear HW
    obtain ⟨a, b, ha, hab, rfl, rfl, HA⟩ := hrel
    obtain ⟨Y, r, hF, hY⟩ := HA.out
    have HF : Hid (Fst K g w wr l Y r ∧ Y.length = a) := ⟨hF, hY⟩
    clear hF hY HA
    by_cases hbn : b ≤ n
    · have HC : Hid (Calls Try.prog 26 #[.slice (some ⟨g, 0, none⟩) n n, .int .i64 (a : Int), .int .i64 (b : Int), cmpF X] wr fun e v => e = .returned (.tuple #[]) ∧ ∃ Y r, Fst K g w v l Y r ∧ Y.length = b) := HI.out wr Y r a b HF.out.1 HF.out.2 hab hbn
      clear HF HI HJ HK HL HM HSt2 HE
      go_wp2_with fail
      refine (HC.out).mono ?_
      rintro e u ⟨rfl, h1⟩
      have HQ : Hid (∃ Y r, Fst K g w u l Y r ∧ Y.length = b) := h1
      clear h1 HC
      go_wp2
      go_roundw
      case rel => exact ⟨b, b + 20, by omega, rfl, rfl, by go_num, HQ.out⟩
      case measure => simp [intOf]; omega
    · have HC : Hid (Calls Try.prog 26 #[.slice (some ⟨g, 0, none⟩) n n, .int .i64 (a : Int), .int .i64 (n : Int), cmpF X] wr fun e v => e = .returned (.tuple #[]) ∧ ∃ M, Sw g w v M ∧ Ch K 20 M ∧ M.Perm l) := HJ.out wr Y r a HF.out.1 HF.out.2 (by omega)
      clear HF HI HJ
      go_wp2_with fail
      refine (HC.out).mono ?_
      rintro e u ⟨rfl, h1⟩
      have HQ : Hid (∃ M, Sw g w u M ∧ Ch K 20 M ∧ M.Perm l) := h1
      clear h1 HC
      go_wp2
      go_loopw [6, 7, 8, 9] (fun kv _ _ _ wr => ∃ k : Nat, 20 ≤ k ∧ k ≤ 2000 ∧ kv = .int .i64 (k : Int) ∧ Hid (∃ M, Sw g w wr M ∧ Ch K k M ∧ M.Perm l)) (fun kv _ _ _ _ => 2000 - (intOf kv).toNat)
      case atStart => exact ⟨20, by omega, by omega, rfl, HQ.out⟩
      case round =>
        clear HQ
        obtain ⟨k, hk, hk2, rfl, HA⟩ := hrel
        by_cases hkn : ¬ k < n
        · have HQ : Hid (∃ M, Sw g w wr M ∧ M.Perm l ∧ Srt K M) := HE.out wr k hkn HA.out
          clear HK HL HM HSt2 HE HA
          go_wp2
          go_end0
          exact ⟨rfl, HQ.out⟩
        have hkn : k < n := by omega
        have HS : Hid (∃ Y r, Snd K g k w wr l Y r ∧ Y.length = 0) := HSt2.out wr k HA.out
        clear HE HA
        obtain ⟨k2, hk22⟩ : ∃ k2, 2 * k = k2 := ⟨_, rfl⟩
        have s1 : 2 * (k : Int) = (k2 : Int) := by omega
        have s2 : (k : Int) * 2 = (k2 : Int) := by omega
        go_wp2
        go_loopw [7, 8] (fun av bv wr => ∃ a b : Nat, a ≤ 1000 ∧ a + 2 * k = b ∧ av = .int .i64 (a : Int) ∧ bv = .int .i64 (b : Int) ∧ Hid (∃ Y r, Snd K g k w wr l Y r ∧ Y.length = a)) (fun av _ _ => 1000 - (intOf av).toNat)
        case atStart => exact ⟨0, k2, by omega, by omega, rfl, rfl, HS.out⟩
        case round =>
          clear HS
          obtain ⟨a, b, ha, hab, rfl, rfl, HA⟩ := hrel
          obtain ⟨Y, r, hF, hY⟩ := HA.out
          have HF : Hid (Snd K g k w wr l Y r ∧ Y.length = a) := ⟨hF, hY⟩
          clear hF hY HA
          obtain ⟨m, hm⟩ : ∃ m, a + k = m := ⟨_, rfl⟩
          have s3 : (a : Int) + (k : Int) = (m : Int) := by omega
          by_cases hbn : b ≤ n
          · have HC : Hid (Calls Try.prog 27 #[.slice (some ⟨g, 0, none⟩) n n, .int .i64 (a : Int), .int .i64 (m : Int), .int .i64 (b : Int), cmpF X] wr fun e v => e = .returned (.tuple #[]) ∧ ∃ Y r, Snd K g k w v l Y r ∧ Y.length = b) := HK.out wr Y r k a m b (by omega) HF.out.1 HF.out.2 hm hab hbn
            clear HF HK HL HM HSt2
            go_wp2_with fail
            refine (HC.out).mono ?_
            rintro e u ⟨rfl, h1⟩
            have HQ : Hid (∃ Y r, Snd K g k w u l Y r ∧ Y.length = b) := h1
            clear h1 HC
            go_wp2
            go_roundw
            case rel => exact ⟨b, b + k2, by omega, by omega, rfl, by go_num, HQ.out⟩
            case measure => simp [intOf]; omega
          by_cases hmn : m < n
          · have HC : Hid (Calls Try.prog 27 #[.slice (some ⟨g, 0, none⟩) n n, .int .i64 (a : Int), .int .i64 (m : Int), .int .i64 (n : Int), cmpF X] wr fun e v => e = .returned (.tuple #[]) ∧ ∃ M, Sw g w v M ∧ Ch K (2 * k) M ∧ M.Perm l) := HL.out wr Y r k a m (by omega) HF.out.1 HF.out.2 hm (by omega) hmn
            clear HF HK HL HM HSt2
            go_wp2_with fail
            refine (HC.out).mono ?_
            rintro e u ⟨rfl, h1⟩
            have HQ : Hid (∃ M, Sw g w u M ∧ Ch K k2 M ∧ M.Perm l) := by rw [← hk22]; exact h1
            clear h1 HC
            go_wp2
            go_roundw
            case rel => exact ⟨k2, by omega, by omega, rfl, HQ.out⟩
            case measure => simp [intOf]; omega
          · have HQ : Hid (∃ M, Sw g w wr M ∧ Ch K k2 M ∧ M.Perm l) := by rw [← hk22]; exact HM.out wr Y r k a HF.out.1 HF.out.2 (by omega)
            clear HF HK HL HM HSt2
            go_wp2
            go_roundw
            case rel => exact ⟨k2, by omega, by omega, rfl, HQ.out⟩
            case measure => simp [intOf]; omega
theorem sort_any (g X : Nat) (N : Int) (K : Int → Int) (l : List Int) (n : Nat) (w : World) (hw : w.heap[g]? = some (bv 3 (ivs l))) (hn : l.length = n) (hn2 : n ≤ 1000) (hL : l.Pairwise (· < ·)) (hr : ∀ x ∈ l, 0 ≤ x ∧ x < N) (hC : Cmp g X N K w) :
    Calls Try.prog 20 #[.slice (some ⟨g, 0, none⟩) n n, cmpF X] w fun e u => e = .returned (.tuple #[]) ∧ ∃ M, Sw g w u M ∧ M.Perm l ∧ Srt K M := by
  have HC := stable_any g X N K l n w hw hn hn2 hL hr hC
  have HC2 : Hid (Calls Try.prog 25 #[.slice (some ⟨g, 0, none⟩) n n, .int .i64 (n : Int), cmpF X] w fun e u => e = .returned (.tuple #[]) ∧ ∃ M, Sw g w u M ∧ M.Perm l ∧ Srt K M) := HC
  clear HC hw hn hL hr hC
  go_enter Try.func20, Try.ntmps20
  go_wp2_with fail
  refine (HC2.out).mono ?_
  rintro e u ⟨rfl, h1⟩
  have HQ : Hid (∃ M, Sw g w u M ∧ M.Perm l ∧ Srt K M) := h1
  clear h1 HC2
  go_wp2
  go_end0
  exact ⟨rfl, HQ.out⟩
end Go.Proofs.Ytcenaleladjakab.budget
