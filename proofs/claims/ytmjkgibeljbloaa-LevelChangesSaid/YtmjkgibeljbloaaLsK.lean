/- sorting files: any slice. -/
import Derived.Test.YtmjkgibeljbloaaLsI
import Derived.Test.YtmjkgibeljbloaaLsJ
namespace Go.Proofs.Ytmjkgibeljbloaa
open Go.RowKit
set_option maxRecDepth 100000

set_option maxHeartbeats 4000000 in
theorem ins0_any {w : World} : Calls Try.prog 70 #[.slice none 0 0, .int .i64 0, .int .i64 0, cF] w fun e w' => e = .returned (.tuple #[]) ∧ w' = w := by
  go_enter Try.func70, Try.ntmps70
  go_wp2_with fail
  go_loopw [8] (fun i wr => i = .int .i64 1 ∧ wr = w) (fun _ _ => 0)
  case atStart => exact ⟨rfl, rfl⟩
  case round =>
    obtain ⟨rfl, rfl⟩ := hrel
    go_wp2_with fail
    go_end0
    exact ⟨rfl, rfl⟩
set_option maxHeartbeats 4000000 in
theorem stable0_any {w : World} : Calls Try.prog 66 #[.slice none 0 0, .int .i64 0, cF] w fun e w' => e = .returned (.tuple #[]) ∧ w' = w := by
  have hin := fun wx => ins0_any (w := wx)
  go_enter Try.func66, Try.ntmps66
  go_wp2_with fail
  go_loopw [7, 8] (fun i j wr => i = .int .i64 0 ∧ j = .int .i64 20 ∧ wr = w) (fun _ _ _ => 0)
  case atStart => exact ⟨rfl, rfl, rfl⟩
  case round =>
    obtain ⟨rfl, rfl, rfl⟩ := hrel
    go_wp2_with fail
    refine (hin _).mono ?_
    rintro e w1 ⟨rfl, rfl⟩
    go_wp2_with fail
    go_loopw [6] (fun i wr => i = .int .i64 20 ∧ wr = w1) (fun _ _ => 0)
    case atStart => exact ⟨rfl, rfl⟩
    case round =>
      obtain ⟨rfl, rfl⟩ := hrel
      go_wp2_with fail
      go_end0
      exact ⟨rfl, rfl⟩
set_option maxHeartbeats 4000000 in
theorem sort0_any {w : World} : Calls Try.prog 50 #[.slice none 0 0, cF] w fun e w' => e = .returned (.tuple #[]) ∧ w' = w := by
  have hin := fun wx => stable0_any (w := wx)
  go_enter Try.func50, Try.ntmps50
  go_wp2_with fail
  refine (hin _).mono ?_
  rintro e w1 ⟨rfl, rfl⟩
  go_wp2_with fail
  go_end0
  exact ⟨rfl, rfl⟩
/-- P11.4: a slice of files is put in order. -/
theorem sort_any {w : World} {v : Value} {L : List Fl} (h : OwnF w v L) (hl : L.length ≤ 1000000) :
    Calls Try.prog 50 #[v, cF] w fun e w' => e = .returned (.tuple #[]) ∧ ∃ S, S.Perm L ∧ Srt S ∧ OwnF w' v S ∧ Mod (own v) w w' := by
  rcases OwnK.form h with ⟨rfl, hn⟩ | ⟨g, cap, rfl, -, -, -⟩
  · obtain rfl : L = [] := List.eq_nil_of_length_eq_zero hn
    refine sort0_any.mono ?_
    rintro e w1 ⟨rfl, rfl⟩
    exact ⟨rfl, [], List.Perm.refl _, List.Pairwise.nil, h, Mod.refl _ _⟩
  · refine (sortfull_any h rfl hl).mono ?_
    rintro e w1 ⟨rfl, S, p, s, o, m⟩
    refine ⟨rfl, S, p, s, o, ?_⟩
    exact m.mono (fun k _ hk => by subst hk; rfl)
end Go.Proofs.Ytmjkgibeljbloaa
