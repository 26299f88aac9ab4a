/- Calls on a disk with a fuse. No conditions but those each law names. -/
import Derived.Test.YtdofnoaadkpniaaDskH
namespace Go.Proofs.Ytdofnoaadkpniaa.DskI
open Go.RowKit Go.Proofs.Ytdofnoaadkpniaa.Kit Go.Proofs.Ytdofnoaadkpniaa.Byt Go.Proofs.Ytdofnoaadkpniaa.Mem Go.Proofs.Ytdofnoaadkpniaa.DskA Go.Proofs.Ytdofnoaadkpniaa.DskB Go.Proofs.Ytdofnoaadkpniaa.DskC Go.Proofs.Ytdofnoaadkpniaa.DskE Go.Proofs.Ytdofnoaadkpniaa.DskF

theorem spend_more {s : St} (h1 : 0 < s.fuse) (h2 : s.down = false) : spend s = (true, { s with fuse := s.fuse - 1 }) := by
  rw [spend, if_neg (by omega), h2, if_neg (by simp), if_pos h1]
theorem spend_end {s : St} (h1 : s.fuse = 0) : spend s = (false, { s with down := true }) := by rw [spend, if_pos h1]
section
variable {w0 w : World} {F : Nat → Prop} {g : Nat} {s : St}
theorem Up.write_f (h : Up w0 w F g s) (h1 : 0 < s.fuse) (h2 : s.down = false) {i : Nat} (hi : i < s.S.length) {A : Option Addr} {c : Nat} {bs : List Nat} (hR : Rd w A 64 c (u8n bs)) (hA : ∀ b o, A = some ⟨b, o, none⟩ → ¬ F b) (hL : s.L.length ≤ 1000000000) :
    Calls Try.prog 12 #[.pointer (some ⟨g, 0, none⟩), .int .i64 (i : Int), .slice A 64 c] w (Went w0 F g w (.int .i64 0) { s with fuse := s.fuse - 1, L := s.L ++ [(i, bs)] }) := by
  have sp := spend_more h1 h2
  have hw := write_ok F g s i A c bs w h.dk hi hR hA (by rw [sp]) hL
  rw [sp] at hw
  exact hw.mono fun e w' hg => h.step hg
theorem Up.flush_f (h : Up w0 w F g s) (h1 : 0 < s.fuse) (h2 : s.down = false) (hL : s.L.length ≤ 1000000000) :
    Calls Try.prog 14 #[.pointer (some ⟨g, 0, none⟩)] w (Went w0 F g w (.int .i64 0) (lay (fun _ => true) { s with fuse := s.fuse - 1 })) := by
  have sp := spend_more h1 h2
  have hw := flush_ok F g s w h.dk (by rw [sp]) hL
  rw [sp] at hw
  exact hw.mono fun e w' hg => h.step hg
theorem Up.write_d (h : Up w0 w F g s) (h1 : s.fuse = 0) {i : Nat} (hi : i < s.S.length) {A : Option Addr} {c : Nat} :
    Calls Try.prog 12 #[.pointer (some ⟨g, 0, none⟩), .int .i64 (i : Int), .slice A 64 c] w (Went w0 F g w (.int .i64 8) { s with down := true }) := by
  have sp := spend_end h1
  have hw := write_down F g s i A c w h.dk (by simp [inB, hi]) (by rw [sp])
  rw [sp] at hw
  exact hw.mono fun e w' hg => h.step hg
theorem Up.flush_d (h : Up w0 w F g s) (h1 : s.fuse = 0) :
    Calls Try.prog 14 #[.pointer (some ⟨g, 0, none⟩)] w (Went w0 F g w (.int .i64 8) { s with down := true }) := by
  have sp := spend_end h1
  have hw := flush_down F g s w h.dk (by rw [sp])
  rw [sp] at hw
  exact hw.mono fun e w' hg => h.step hg
end
end Go.Proofs.Ytdofnoaadkpniaa.DskI
