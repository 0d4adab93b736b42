/- filter: the library's IndexAny at the four signs: any text. -/
import Derived.Test.YtekocbphdckmkaaFpG
import Derived.Lib.OthersKept
namespace Go.Proofs.Ytekocbphdckmkaa
open Go.Shelf Go.RowKit
set_option maxRecDepth 100000

theorem sgns_has (b : UInt8) : sgns.contains b = sgnB b := by
  unfold sgns sgnB
  simp only [List.contains_cons, List.contains_nil, Bool.or_false, Bool.or_assoc]
theorem sgns_idx (b : UInt8) : decide ((0 : Int) ≤ Lib.indexByte sgns b) = sgnB b := by
  rw [idx_mem, ← sgns_has]
  simp [List.contains_eq_mem]
theorem irune_yes {w : World} (b : UInt8) (h1 : b.toNat < 128) :
    Calls Try.prog 59 #[sv sgns, .int .i32 (b.toNat : Int)] w fun e w' => e = .returned (.int .i64 (Lib.indexByte sgns b)) ∧ w' = w := by
  have h := Any.strings_IndexRune_ascii (P := Try.prog) (ρ := lay153_ren) { lay153 with } ⟨sgns.toArray⟩ (b.toNat : Int) w (by omega) (by omega)
  have hb : (b.toNat : Int).toNat.toUInt8 = b := by rw [Int.toNat_natCast]; exact UInt8.ofNat_toNat
  rw [hb] at h
  exact h
def noS (s : ByteArray) (i : Nat) : Prop := ∀ j, j < i → j < s.size → sgnB (s.get! j) = false
theorem noS_last {R : List UInt8} {i : Nat} (hi : R.length ≤ i) (h : noS ⟨R.toArray⟩ i) : Lib.indexAny R sgns = -1 := by
  refine Lib.indexAny_none fun j b hj hb => ?_
  rw [sgns_has]
  have hjl : j < (⟨R.toArray⟩ : ByteArray).size := by rw [sv_size]; exact hj
  have h2 := h j (by omega) hjl
  have h3 : (⟨R.toArray⟩ : ByteArray).get! j = b := by
    have := get_at (⟨R.toArray⟩ : ByteArray) j hjl
    rw [Nat.add_zero] at this
    rw [this, sv_get R j hj]
    rw [List.getElem?_eq_getElem hj] at hb
    exact Option.some.inj hb
  rw [h3] at h2
  exact h2
theorem noS_hit {R : List UInt8} {i : Nat} (hi : i < R.length) (h : noS ⟨R.toArray⟩ i) (hs : sgnB R[i] = true) : Lib.indexAny R sgns = i := by
  refine Lib.indexAny_hit (x := R[i]) (fun j b hj hb => ?_) (List.getElem?_eq_getElem hi) (by rw [sgns_has]; exact hs)
  rw [sgns_has]
  have hjl : j < R.length := by omega
  have hjs : j < (⟨R.toArray⟩ : ByteArray).size := by rw [sv_size]; exact hjl
  have h2 := h j hj hjs
  have h3 : (⟨R.toArray⟩ : ByteArray).get! j = b := by
    have := get_at (⟨R.toArray⟩ : ByteArray) j hjs
    rw [Nat.add_zero] at this
    rw [this, sv_get R j hjl]
    rw [List.getElem?_eq_getElem hjl] at hb
    exact Option.some.inj hb
  rw [h3] at h2
  exact h2
theorem sgnB_high {b : UInt8} (h : 128 ≤ b.toNat) : sgnB b = false := by
  have : ∀ n, n < 128 → b ≠ UInt8.ofNat n := fun n hn e => by rw [e, UInt8.toNat_ofNat_of_lt' (by show n < 256; omega)] at h; omega
  unfold sgnB
  have h61 : (b == 61) = false := beq_eq_false_iff_ne.2 (this 61 (by omega))
  have h62 : (b == 62) = false := beq_eq_false_iff_ne.2 (this 62 (by omega))
  have h60 : (b == 60) = false := beq_eq_false_iff_ne.2 (this 60 (by omega))
  have h126 : (b == 126) = false := beq_eq_false_iff_ne.2 (this 126 (by omega))
  rw [h61, h62, h60, h126]
  rfl
def itPos (w : World) (p : Nat) : Nat := match w.heap[p]? with | some (.stringIter _ k) => k | _ => 0
theorem itPos_at {w : World} {p : Nat} {s : ByteArray} {k : Nat} (h : w.heap[p]? = some (.stringIter s k)) : itPos w p = k := by unfold itPos; rw [h]
set_option maxHeartbeats 8000000 in
theorem iany_short {w : World} {R : List UInt8} (h8 : R.length ≤ 8) :
    Calls Try.prog 53 #[sv R, sv sgns] w fun e w' => e = .returned (.int .i64 (Lib.indexAny R sgns)) ∧ Ext w w' := by
  have hsz := sv_size R
  have hsc := sgns_size
  obtain ⟨V, hV⟩ : ∃ V, V = Lib.indexAny R sgns := ⟨_, rfl⟩
  rw [← hV]
  have hsgns : sgns = [61, 62, 60, 126] := rfl
  obtain ⟨S, hS⟩ : ∃ S : ByteArray, S = ⟨R.toArray⟩ := ⟨_, rfl⟩
  have hlast : ∀ i, S.size ≤ i → noS S i → V = -1 := fun i hi h => by rw [hV]; exact noS_last (by rw [← hsz, ← hS]; exact hi) (by rw [← hS]; exact h)
  have hhit : ∀ i (hi : i < S.size), noS S i → sgnB (S[i]'hi) = true → V = i := fun i hi h h2 => by
    have hiR : i < R.length := by rw [← hsz, ← hS]; exact hi
    rw [hV]
    refine noS_hit hiR (by rw [← hS]; exact h) ?_
    rw [← sv_get R i hiR (by rw [← hS]; exact hi)]
    have : ∀ (S' : ByteArray) (h' : i < S'.size), S' = S → S'[i]'h' = S[i]'hi := by rintro S' h' rfl; rfl
    rw [this _ _ hS.symm]; exact h2
  have hS8 : S.size ≤ 8 := by rw [hS, hsz]; exact h8
  show Calls Try.prog 53 #[.string ⟨R.toArray⟩, sv sgns] w _
  rw [← hS]
  clear hS hV hsz h8
  have h8z : decide ((8 : Int) < (S.size : Int)) = false := dfalse (by omega)
  have hus := fun wx => Any.strings_shouldUseASCIISet (P := Try.prog) (ρ := lay153_ren) { lay153 with } (S.size : Int) wx
  rw [h8z] at hus
  replace hus : ∀ wx, Calls Try.prog 60 #[.int .i64 (S.size : Int)] wx fun e w' => e = .returned (.bool false) ∧ w' = wx := hus
  replace hlast := Lib.hid hlast
  replace hhit := Lib.hid hhit
  replace hus := Lib.hid hus
  have hem : sgns.isEmpty = false := rfl
  have hln : sgns.length = 4 := rfl
  obtain ⟨C, hC⟩ : ∃ C, C = sgns := ⟨_, rfl⟩
  have hno := fun (wx : World) (r : Int) => irune_no (w := wx) r
  have hye := fun (wx : World) (b : UInt8) => irune_yes (w := wx) b
  have hdx := sgns_idx
  rw [← hC] at hem hln hno hye hdx hsc ⊢
  replace hno := Lib.hid hno
  replace hye := Lib.hid hye
  replace hdx := Lib.hid hdx
  clear hC hsgns
  go_enter Try.func53, Try.ntmps53
  go_wp2_with fail
  refine (hus.out _).mono ?_
  rintro e w1 ⟨rfl, rfl⟩
  go_wp2_with fail
  obtain ⟨p, hp⟩ : ∃ p, p = w1.heap.size := ⟨_, rfl⟩
  have hi0 : (w1.iter S 0).heap[p]? = some (.stringIter S 0) := by rw [hp]; exact World.iter_heap _ _ _
  have hx0 : Ext w1 (w1.iter S 0) := (Mod.refl _ _).alloc _
  rw [← hp]
  replace hp := Lib.hid hp
  go_loopw [] (fun wx => ∃ i : Nat, wx.heap[p]? = some (.stringIter S i) ∧ Hid (noS S i) ∧ Ext w1 wx) (fun wx => S.size - itPos wx p)
  case atStart => exact ⟨0, hi0, Lib.hid (fun j hj _ => by omega), hx0⟩
  case round =>
    clear hi0 hx0
    obtain ⟨i, hit, hns, hx⟩ := hrel
    have hat := itPos_at hit
    by_cases hi : i < S.size
    case neg =>
      have hnx := fun ty => Lib.run_next_end_at (P := Try.prog) wr p S i ty hit hi
      have hv := Lib.hid (hlast.out i (by omega) hns.out)
      clear hlast hhit hns
      go_wp2_with fail
      go_ret
      exact ⟨by rw [hv.out]; rfl, hx⟩
    by_cases ha : (S[i]'hi).toNat < 128
    · have hnx := fun ty => Lib.run_next_ascii_at (P := Try.prog) wr p S i ty hit hi ha
      have hit2 := Lib.iterAt_heap wr p S i (i + 1) hit
      have x2 : Ext w1 (wr.iterAt p S (i + 1)) := Mod.of_below (Lib.below_iterAt hx.toBelow (by have := hp.out; omega) S (i + 1))
      have hns2 : sgnB (S[i]'hi) = false → noS S (i + 1) := fun h j hj hjs => by
        rcases Nat.lt_or_ge j i with h1 | h1
        · exact hns.out j h1 hjs
        · obtain rfl : j = i := by omega
          have := get_at S j hjs
          rw [Nat.add_zero] at this
          rw [this]; exact h
      have hht := hhit.out i hi hns.out
      replace hns2 := Lib.hid hns2
      replace hht := Lib.hid hht
      generalize hxx : (S[i]'hi) = x at *
      obtain ⟨w2, hw2⟩ : ∃ y, y = wr.iterAt p S (i + 1) := ⟨_, rfl⟩
      rw [← hw2] at hit2 x2 hnx
      clear hw2 hxx hlast hhit hns
      have hat2 := itPos_at hit2
      have hd := hdx.out x
      have hc := hye.out w2 x ha
      replace hc := Lib.hid hc
      cases hs : sgnB x
      · rw [hs] at hd
        have hn := Lib.hid (hns2.out hs)
        clear hs hns2 hht
        generalize Lib.indexByte C x = q at *
        go_wp2_with fail
        refine hc.out.mono ?_
        rintro e w3 ⟨rfl, rfl⟩
        go_wp2_with fail
        exact ⟨⟨i + 1, hit2, hn, x2⟩, by rw [hat, hat2]; omega⟩
      · rw [hs] at hd
        have hv := Lib.hid (hht.out hs)
        clear hs hns2 hht
        generalize Lib.indexByte C x = q at *
        go_wp2_with fail
        refine hc.out.mono ?_
        rintro e w3 ⟨rfl, rfl⟩
        go_wp2_with fail
        go_ret
        exact ⟨by rw [hv.out]; rfl, x2⟩
    · have hnx := fun ty => Lib.run_next_any_at (P := Try.prog) wr p S i ty hit hi
      have hde := decode_high S i hi (by omega)
      have hsk := decode_skip S i hi (by omega)
      obtain ⟨r, hr⟩ : ∃ r, r = (Utf8.decode S i).1 := ⟨_, rfl⟩
      obtain ⟨n, hn⟩ : ∃ r, r = (Utf8.decode S i).2 := ⟨_, rfl⟩
      rw [← hr] at hnx hde
      rw [← hn] at hnx hde hsk
      have hit2 := Lib.iterAt_heap wr p S i (i + n) hit
      have x2 : Ext w1 (wr.iterAt p S (i + n)) := Mod.of_below (Lib.below_iterAt hx.toBelow (by have := hp.out; omega) S (i + n))
      have hns2 := Lib.hid (show noS S (i + n) from fun j hj hjs => by
        rcases Nat.lt_or_ge j i with h1 | h1
        · exact hns.out j h1 hjs
        · have h2 := (hsk (j - i) (by omega)).2
          rw [show i + (j - i) = j by omega] at h2
          exact sgnB_high h2)
      obtain ⟨w2, hw2⟩ : ∃ y, y = wr.iterAt p S (i + n) := ⟨_, rfl⟩
      rw [← hw2] at hit2 x2 hnx
      clear hw2 hr hn hsk hlast hhit hns ha
      have hc := Lib.hid (hno.out w2 (r : Int) (by omega))
      have hat2 := itPos_at hit2
      go_wp2_with fail
      refine hc.out.mono ?_
      rintro e w3 ⟨rfl, x3⟩
      have hit3 : w3.heap[p]? = some (.stringIter S (i + n)) := (x3.block p (lt_of_block hit2) (fun h => h)).trans hit2
      have hat3 := itPos_at hit3
      go_wp2_with fail
      exact ⟨⟨i + n, hit3, hns2, ext_trans x2 x3⟩, by rw [hat, hat3]; omega⟩
end Go.Proofs.Ytekocbphdckmkaa
