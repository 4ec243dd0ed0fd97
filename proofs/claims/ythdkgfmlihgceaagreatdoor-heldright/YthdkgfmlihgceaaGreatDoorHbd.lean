import Derived.Test.YthdkgfmlihgceaaGreatDoorHav
namespace Go.Proofs.YthdkgfmlihgceaaGreatDoor
set_option maxRecDepth 100000
set_option maxHeartbeats 2000000
open Go.RowKit
section
variable {p:Pr}{n₁ nz b:Nat}{H:Nat->Bool}{ev gv:Value}{s:Fs}{w:World}
theorem qt5 (A:PAt (qao p) 97 n₁ nz b H ev gv s w) (a:Int) (y:Ed) (hy:y.e.Is w.heap.size (only (qp b H ev gv) w)) (hs:s.es.length<=100000000) (hl:s.locs<=1000000000) :
  Calls Tryz.prog 66 #[.pointer (some ⟨b,0,none⟩),.int .i64 a,y.val] w λr w'=>r=.returned (.int .i64 s.locs)/\∃ev',PAt (qao p) 97 n₁ nz b H ev' gv (s.on a y.top).1 w'/\Fr b ev gv ev' gv w w':=by
 have hb:=A.lt
 have b1:=qaf w (.cells y.cells.toArray 50)
 have A1:=A.al (.cells y.cells.toArray 50)
 have h1:=ql5 A1 hl
 have F1:Fr b ev gv ev gv w (w.alloc (.cells y.cells.toArray 50)):=(Fr.refl b ev gv w).bel ((Below.refl _ _).al qaa _)
 have HY:=hid (λ(u:World) (K:Fr b ev gv ev gv w u)=>(hy.imp (qak (Q':=qp b H ev gv) (W':=u) λk hk hq=>⟨hq,K.block k hk (qcm.1 hq).1 (qcm.1 hq).2.1 (qcm.1 hq).2.2.1⟩) K.size:y.e.Is u.heap.size (only (qp b H ev gv) u)))
 have HB:=hid (λ(u:World) (K:Fr b ev gv ev gv (w.alloc (.cells y.cells.toArray 50)) u)=>(K.block w.heap.size (by simp) (by omega) (λe=>by have:=(A.evlt e).2;omega) (λe=>by have:=(A.gvlt e).2;omega)).trans b1)
 have h2:=λ(u:World) (A:PAt (qao p) 97 n₁ nz b H ev gv s.place u) (hy:y.e.Is u.heap.size (only (qp b H ev gv) u))=>qte A a s.locs y hy hs
 obtain⟨l,hl2⟩:∃l,s.locs=l:=⟨_,rfl⟩
 have HR:=hid (show (s.on a y.top).1=s.place.lay a l y.top by rw[<- hl2];rfl)
 rw[HR.out]
 simp only[hl2] at h1 h2 ⊢
 rcases y with ⟨y1,y2,y3,y4,y5,⟨z1,z2,z3,z4,z5,z6,z7,z8⟩,y7,y8,y9,y10⟩
 simp only[Ed.val,Ed.cells,Ex.cells,List.cons_append,List.nil_append] at h1 h2 F1 HB b1 A1 ⊢
 clear hl hs hl2 A hy
 go_enter Tryz.func66,Tryz.ntmps66
 go_wp2_with (first
  | (go_at_call 30;(with_reducible refine h1.mono ?_);rintro r u1 ⟨rfl,A2,K2⟩;have F2:=F1.trans K2;have b2:=HB.out _ K2;have hy2:=HY.out _ F2;obtain⟨d0,d1,d2,d3,d4,d5,d6,d7,d8,d9,d10,d11,d12,d13,d14⟩:=fifteen b2)
  | (go_at_call 71;(with_reducible refine (h2 _ A2 hy2).mono ?_);rintro r u2 ⟨rfl,ev',A3,K3⟩))
 go_ret
 exact⟨rfl,ev',A3,F2.trans K3⟩
end
