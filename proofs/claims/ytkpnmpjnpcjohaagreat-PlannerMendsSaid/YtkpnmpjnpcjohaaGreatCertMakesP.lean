import Derived.Test.YtkpnmpjnpcjohaaGreatCertFollows
set_option linter.unusedSimpArgs false
set_option linter.unusedVariables false
set_option maxHeartbeats 8000000
set_option maxRecDepth 100000
namespace Go.Proofs.YtkpnmpjnpcjohaaGreat
open ChangeShapes WideShapes ChangeAt RowKit Mem GeoMath FleetMath PlanMath CertMath Rec Geo Span Deal Route Plan
namespace Cert
abbrev GX(w:World)(q A:Option Addr)(n c:Nat)(A2:Option Addr)(n2 c2:Nat):World:=(FX w).alloc (.cells #[.pointer q,.slice A n c,.slice A2 n2 c2] 163)
section
variable {w wr w' : World} {q A A2 : Option Addr} {n c n2 c2 : Nat}
theorem GX.below:Below w.heap.size w (GX w q A n c A2 n2 c2):=(FX.below w).alloc (FX.below w).size _
theorem GX.size:(GX w q A n c A2 n2 c2).heap.size=w.heap.size+2:=by simp
theorem GX.flt:Blk (GX w q A n c A2 n2 c2) w.heap.size 108 [.int .i64 0,.int .i64 0]:=(Blk.new w 108 [.int .i64 0,.int .i64 0]).below ((Below.refl _ _).alloc (Nat.le_refl _) _) (by rw[FX.size];omega)
theorem GX.box:FlBox (GX w q A n c A2 n2 c2) (w.heap.size+1) q A n c A2 n2 c2:=by
 have h:=Blk.new (FX w) 163 [.pointer q,.slice A n c,.slice A2 n2 c2];rw[FX.size]at h;exact h
end
structure PM(w:World)(q A:Option Addr)(n c:Nat)(A2:Option Addr)(n2 c2:Nat)(v:Value)(wr:World)(l:List CM)(k:Nat):Prop where
 new:NewC (GX w q A n c A2 n2 c2) wr v l
 few:∀r∈l,r.n*48≤140737488351232
 len:l.length=k
section
variable {w wr w' : World} {q A A2 : Option Addr} {n c n2 c2 : Nat} {v v' : Value} {l : List CM} {k : Nat}
theorem b_x(h:Below (GX w q A n c A2 n2 c2).heap.size (GX w q A n c A2 n2 c2) wr):Below w.heap.size w wr:=GX.below.trans (h.mono (by have:=GX.size (w:=w) (q:=q) (A:=A) (n:=n) (c:=c) (A2:=A2) (n2:=n2) (c2:=c2);omega))
theorem o_c(h:Below (GX w q A n c A2 n2 c2).heap.size (GX w q A n c A2 n2 c2) wr):Blk wr w.heap.size 108 [.int .i64 0,.int .i64 0]:=GX.flt.below h (by have:=GX.size (w:=w) (q:=q) (A:=A) (n:=n) (c:=c) (A2:=A2) (n2:=n2) (c2:=c2);omega)
theorem r_5(h:Below (GX w q A n c A2 n2 c2).heap.size (GX w q A n c A2 n2 c2) wr):FlBox wr (w.heap.size+1) q A n c A2 n2 c2:=FlBox.below GX.box h
theorem d_4(h:Below (GX w q A n c A2 n2 c2).heap.size (GX w q A n c A2 n2 c2) wr)(a b:Value):(wr.cell? ⟨w.heap.size,0,none⟩=some (.int .i64 0)∧wr.frozen? ⟨w.heap.size,0,none⟩=false)∧((wr.setCell ⟨w.heap.size,0,none⟩ a).cell? ⟨w.heap.size,1,none⟩=some (.int .i64 0)∧(wr.setCell ⟨w.heap.size,0,none⟩ a).frozen? ⟨w.heap.size,1,none⟩=false)∧((wr.setCell ⟨w.heap.size,0,none⟩ a).setCell ⟨w.heap.size,1,none⟩ b).cell? ⟨w.heap.size,0,none⟩=some a∧((wr.setCell ⟨w.heap.size,0,none⟩ a).setCell ⟨w.heap.size,1,none⟩ b).cell? ⟨w.heap.size,1,none⟩=some b:=by
 have f1:=(o_c h).put 0 a;have f2:=f1.put 1 b;exact⟨⟨(o_c h).cell rfl,(o_c h).free 0⟩,⟨f1.cell rfl,f1.free 1⟩,f2.cell rfl,f2.cell rfl⟩
theorem e_O(h:Below (GX w q A n c A2 n2 c2).heap.size (GX w q A n c A2 n2 c2) wr)(hb:Below wr.heap.size wr w'):Below (GX w q A n c A2 n2 c2).heap.size (GX w q A n c A2 n2 c2) w':=h.trans (hb.mono h.size)
theorem PM.keep(h:PM w q A n c A2 n2 c2 v wr l k)(hb:Below wr.heap.size wr w'):PM w q A n c A2 n2 c2 v w' l k:=⟨h.new.keep hb,h.few,h.len⟩
theorem NewC.put2(h:NewC (GX w q A n c A2 n2 c2) wr v l)(a b:Value):NewC w ((wr.setCell ⟨w.heap.size,0,none⟩ a).setCell ⟨w.heap.size,1,none⟩ b) v l:=by
 have hz:=GX.size (w:=w) (q:=q) (A:=A) (n:=n) (c:=c) (A2:=A2) (n2:=n2) (c2:=c2)
 have hs:∀g,(GX w q A n c A2 n2 c2).heap.size≤g→g<wr.heap.size→((wr.setCell ⟨w.heap.size,0,none⟩ a).setCell ⟨w.heap.size,1,none⟩ b).heap[g]?=wr.heap[g]? :=fun g hg _=>by
  exact(Below.heap_setCell _ _ _ g (by show g≠w.heap.size;omega)).trans (Below.heap_setCell _ _ _ g (by show g≠w.heap.size;omega))
 have hl:w.heap.size≤(GX w q A n c A2 n2 c2).heap.size:=by omega
 exact⟨((b_x h.old).setCell (Nat.le_refl _) _).setCell (Nat.le_refl _) _,(h.own.same hs).lower hl,fun r hr=>⟨((h.each r hr).1.same hs).lower hl,(h.each r hr).2⟩,h.apart⟩
theorem PM.start{cap g:Nat}(h:Below (GX w q A n c A2 n2 c2).heap.size (GX w q A n c A2 n2 c2) wr)(ho:OwnK wr (GX w q A n c A2 n2 c2).heap.size 164 1 (.slice (some ⟨g,0,none⟩) 0 cap) 0 []):PM w q A n c A2 n2 c2 (.slice (some ⟨g,0,none⟩) 0 cap) wr [] 0:=
 ⟨⟨h,ho,(fun r hr=>by cases hr),List.Pairwise.nil⟩,(fun r hr=>by cases hr),rfl⟩
end
section
variable {m : Option Mp} {ds : List Drv} {os : List FleetMath.Ord} {p : List Rte} {k : Nat} {r : Rte} {done : List (List Vis)} {X : Except (Nat × Int) (List (List Vis))} {vs : List Vis} {e : Int}
theorem o_d(h:X=pre done (a_v m ds os k (p.drop k)))(hp:p.drop k=r::p.drop (k+1))(hd:d_p m ds os r=(vs,e))(hn:e≠0):X=.error (k,e):=by
 cases hx:a_o ds r.drv with
 |none=>
  rw[c_6 hx]at hd;injection hd with _ hd;subst hd;exact s_p h hp hx
 |some d=>
  rw[c_7 hx]at hd;injection hd with _ hd;exact q_E h hp hx hd hn
theorem q_z(h:X=pre done (a_v m ds os k (p.drop k)))(hp:p.drop k=r::p.drop (k+1))(hd:d_p m ds os r=(vs,0)):X=pre (done++[vs]) (a_v m ds os (k+1) (p.drop (k+1))):=by
 cases hx:a_o ds r.drv with
 |none=>
  rw[c_6 hx]at hd;injection hd with _ hd;cases hd
 |some d=>
  rw[c_7 hx]at hd;injection hd with h1 h2;exact s_q (j:=(a_J m d os r.stops).2.1) h hp hx (by rw[← h1,←h2])
theorem m_s(h:d_p m ds os r=(vs,e)):vs.length≤80:=by
 cases hx:a_o ds r.drv with
 |none=>
  rw[c_6 hx]at h;injection h with h _;subst h;exact Nat.zero_le _
 |some d=>
  rw[c_7 hx]at h;injection h with h _;rw[← h];exact o_g m d os r.stops
end
theorem q_A(n:Nat)(hn:n≤80):∃ca:Array Value,(∀ u:World,(Instr.makeSlice 106 (.int .i64 0) (.int .i64 (n:Int))).run Tryz.prog u=.ok (.slice (some ⟨u.heap.size,0,none⟩) 0 n) (u.alloc (.cells ca 164)))∧∀(u:World) (base:Nat),base≤u.heap.size→OwnK (u.alloc (.cells ca 164)) base 164 1 (.slice (some ⟨u.heap.size,0,none⟩) 0 n) 0 []:=by
 obtain⟨i0,hi,hz0,hz1,hz2⟩:=info_parts s_b;refine⟨_,fun u=>?_,fun u base hb=>⟨World.ownsRow_made u _ n hb (by unfold maxLen;omega) (size_madeCells (Value.slice none 0 0).cells (n*1)),Nat.zero_le _⟩⟩;have h:=run_make (P:=Tryz.prog) u 106 164 i0 _ Tryz.underlying106 hi hz0 .i64 .i64 0 (n:Int) (Int.le_refl _) (by omega) (by rw[hz2];omega) (by omega);rw[hz1]at h;simpa using h
theorem o_e{base:Nat}{q:Option Addr}{m:Option Mp}{A:Option Addr}{n c:Nat}{ds:List Drv}{A2:Option Addr}{n2 c2:Nat}{os:List FleetMath.Ord}{x:RM}{w:World}{vs:List Vis}{e:Int}(hnc2:n2≤c2)(hxc:x.n≤x.c)
 (h:MapP w 92 base (.pointer q) m) (hd:Drvs w w.heap.size A n ds) (ho:Ords w w.heap.size A2 n2 os) (hs:Stps w w.heap.size x.a x.n x.rt.stops) (hr:d_p m ds os x.rt=(vs,e)):
 Calls Tryz.prog 101 #[d_m q A n c A2 n2 c2,rteV x] w fun en w'=>∃B c3,en=.returned (.tuple #[.slice B vs.length c3,.int .i64 e])∧Below w.heap.size w w'∧OwnK w' w.heap.size 245 6 (.slice B vs.length c3) vs.length (c_p vs):=by
 have:=m_z base q m A n c ds A2 n2 c2 os x w hnc2 hxc h hd ho hs;rw[hr]at this;exact this
theorem f_N(base:Nat)(pv:Value)(m:Option Mp)(A:Option Addr)(n c:Nat)(ds:List Drv)(A2:Option Addr)(n2 c2:Nat)(os:List FleetMath.Ord)(A3:Option Addr)(n3 c3:Nat)(l:List RM)(w:World)(hnc:n≤c)(hnc2:n2≤c2)
 (h:MapP w 92 base pv m) (hd:Drvs w w.heap.size A n ds) (ho:Ords w w.heap.size A2 n2 os) (hl:Plns w w.heap.size A3 n3 l):
 Calls Tryz.prog 50 #[pv,.slice A n c,.slice A2 n2 c2,.slice A3 n3 c3] w (s_c w (b_K m ds os (l.map (·.rt)))):=by
 have hm:=Recs.le hl.rows;have HD:=Lib.hid hd;have HO:=Lib.hid ho;have HP:=Lib.hid hl;have HL:=Lib.hid hl.length;have HM:=Lib.hid h;obtain⟨rw',hrw⟩:∃r,b_y m ds os (l.map (·.rt))=r:=⟨_,rfl⟩;have HW:=Lib.hid hrw
 obtain⟨q,hq⟩:∃q,pv=.pointer q:=by
  rcases h with⟨rfl,_⟩|⟨b,_,_,rfl,_⟩
  ·exact⟨_,rfl⟩
  ·exact⟨_,rfl⟩
 subst hq;have HS0:Hid (Below (GX w q A n c A2 n2 c2).heap.size (GX w q A n c A2 n2 c2) (GX w q A n c A2 n2 c2)):=Below.refl _ _;have HB0:=Lib.hid (GX.below (w:=w) (q:=q) (A:=A) (n:=n) (c:=c) (A2:=A2) (n2:=n2) (c2:=c2));clear h hd ho hl hrw;go_enter Tryz.func50,Tryz.ntmps50;go_wp2_with fail
 refine(e_k base q m A n c ds A2 n2 c2 os A3 n3 c3 l rw' _ hnc hnc2 (by exact HM.out.keep HB0.out) (by exact Recs.more (Recs.keep HD.out HB0.out) HB0.out.size) (by exact Recs.more (Recs.keep HO.out HB0.out) HB0.out.size) (by exact(HP.out.keep HB0.out).more HB0.out.size) HW.out).mono ?_;rintro e w1 ⟨rfl,hb1⟩;have HS1:=Lib.hid (e_O HS0.out hb1);clear hb1 HS0 HB0;cases rw' with
 |false=>
  have HF:=Lib.hid (q_F HW.out);obtain⟨⟨m0,f0⟩,⟨m1,f1⟩,q0,q1⟩:=d_4 HS1.out (.int .i64 0) (.int .i64 1);go_wp2_with fail
  (try simp only[Exit.inBlock,Exit.then])
  refine bodyPost_ret (v:=.tuple #[.slice none 0 0,faultV 0 1]) ?_ rfl (h_q HF.out (((b_x HS1.out).setCell (Nat.le_refl _) _).setCell (Nat.le_refl _) _));simp[results,Tryz.results50,go_sem,q0,q1]
 |true=>
  have hn8:n3≤8:=by
   obtain⟨_,_,_,_,h4,_⟩:=a_K HW.out;have:=b_2 h4;rw[List.length_map,HL.out]at this;exact this
  obtain⟨X,hX⟩:∃X,a_v m ds os 0 (l.map (·.rt))=X:=⟨_,rfl⟩;have HX0:Hid (X=pre [] (a_v m ds os 0 ((l.map (·.rt)).drop 0))):=Lib.hid (by rw[List.drop_zero,hX];exact o_h X);have HX:=Lib.hid hX;clear hX;obtain⟨ca,hmk,hown⟩:=q_A n3 (by omega)
  have HM0:Hid (PM w q A n c A2 n2 c2 (.slice (some ⟨w1.heap.size,0,none⟩) 0 n3) (w1.alloc (.cells ca 164)) [] 0):=
   PM.start (e_O HS1.out ((Below.refl _ _).alloc (Nat.le_refl _) _)) (hown w1 _ HS1.out.size)
  clear hown;go_wp2_with fail
  go_loopw [11,30] (fun v i wr=>∃(k:Nat) (l':List CM),k≤n3∧i=.int .i64 k∧Hid (PM w q A n c A2 n2 c2 v wr l' k)∧Hid (X=pre (l'.map (·.vs)) (a_v m ds os k ((l.map (·.rt)).drop k)))) (fun _ i _=>n3-(intOf i).toNat)
  case atStart=>exact⟨0,[],Nat.zero_le _,rfl,HM0,HX0⟩
  case round=>
   clear HX0 HS1 HM0 hmk;obtain⟨k,l',hk,rfl,HS,HK⟩:=hrel;by_cases hlt:k<n3
   ·obtain⟨b,off,x,rfl,hbb,hx,hdr,c0,c1,c2',hst,hxc⟩:=(HP.out.keep (b_x HS.out.new.old)).at_ hlt
    have HXX:=Lib.hid hx
    have HPD:Hid ((l.map (·.rt)).drop k=x.rt::(l.map (·.rt)).drop (k+1)):=by
     show _=_;rw[← List.map_drop,hdr,List.map_cons,List.map_drop]
    obtain⟨⟨vs,fe⟩,hdd⟩:∃z,d_p m ds os x.rt=z:=⟨_,rfl⟩;have HDR:=Lib.hid hdd;have hv80:vs.length≤80:=m_s hdd;have HS2:Hid (PM w q A n c A2 n2 c2 u11 (wr.alloc (.cells #[.int .i64 x.rt.drv,.int .i64 x.rt.served,.slice x.a x.n x.c] 37)) l' k):=HS.out.keep ((Below.refl _ _).alloc (Nat.le_refl _) _);have HR2:Hid (RBox (wr.alloc (.cells #[.int .i64 x.rt.drv,.int .i64 x.rt.served,.slice x.a x.n x.c] 37)) wr.heap.size x):=Blk.new wr _ _;clear hx hdr hst hdd;go_upto_region 8 with fail
    obtain⟨w2,hw2⟩:∃u,wr.alloc (.cells #[.int .i64 x.rt.drv,.int .i64 x.rt.served,.slice x.a x.n x.c] 37)=u:=⟨_,rfl⟩;obtain⟨gr,hgr⟩:∃g,wr.heap.size=g:=⟨_,rfl⟩;rw[hw2]at HS2 HR2 ⊢;rw[hgr]at HR2 ⊢;clear hw2 hgr HS c0 c1 c2';obtain⟨f0,f1,f2⟩:=(r_5 HS2.out.new.old).cells;obtain⟨r0,r1,r2⟩:=HR2.out.cells;go_wp2_with fail
    refine(o_e hnc2 hxc (by exact HM.out.keep (b_x HS2.out.new.old)) (by exact Recs.more (Recs.keep HD.out (b_x HS2.out.new.old)) (b_x HS2.out.new.old).size) (by exact Recs.more (Recs.keep HO.out (b_x HS2.out.new.old)) (b_x HS2.out.new.old).size) (by exact Recs.more (((HP.out.keep (b_x HS2.out.new.old)).cells HXX.out).2.2.2.2.1) (b_x HS2.out.new.old).size) HDR.out).mono ?_;rintro e w4 ⟨B4,c4,rfl,hb4,ho4⟩;have HRW:Hid (RowC (GX w q A n c A2 n2 c2) w4 u11 l' ⟨vs,B4,vs.length,c4⟩):=HS2.out.new.row hb4 ho4;have HS4:=Lib.hid (HS2.out.keep hb4);clear hb4 ho4 HS2 HR2 f0 f1 f2 r0 r1 r2;by_cases he:fe=0
    ·subst he
     have HN:Hid (X=pre ((l'++[(⟨vs,B4,vs.length,c4⟩:CM)]).map (·.vs)) (a_v m ds os (k+1) ((l.map (·.rt)).drop (k+1)))):=Lib.hid (by
      rw[List.map_append];exact q_z HK.out HPD.out HDR.out)
     have HR5:Hid (RowC (GX w q A n c A2 n2 c2) (w4.alloc (.cells #[.slice B4 vs.length c4] 164)) u11 l' ⟨vs,B4,vs.length,c4⟩):=HRW.out.keep ((Below.refl _ _).alloc (Nat.le_refl _) _);have HB5:Hid (Blk (w4.alloc (.cells #[.slice B4 vs.length c4] 164)) w4.heap.size 164 [.slice B4 vs.length c4]):=Blk.new w4 _ _;have hlk:l'.length=k:=HS4.out.len;clear HRW;go_wp2_with (at_builtin;refine a_x (o:=⟨some 49,_,_,_,_,_⟩) rfl (.tmp 46) (.tmp 48) Tryz.underlying106 s_b rfl (by decide) rfl HR5.out.cert.own rfl HB5.out rfl rfl (s_B ⟨vs,B4,vs.length,c4⟩) (by unfold maxLen;omega) (by omega) HR5.out.cert.old.size ?_;intro vB wB HO2 HG2 HN2;have HQ:=Lib.hid (HR5.out.push HO2.out HG2.out HN2.out);clear HO2 HG2 HN2)
     go_roundw
     case rel=>
      refine⟨k+1,l'++[⟨vs,B4,vs.length,c4⟩],by omega,by go_num,Lib.hid ⟨HQ.out,fun r hr=>?_,by rw[List.length_append,hlk];rfl⟩,HN⟩;rcases List.mem_append.1 hr with hr|hr
      ·exact HS4.out.few r hr
      ·obtain rfl:r=_:=by simpa using hr
       show vs.length*48≤_;omega
     case measure=>simp[intOf];omega
    ·have HF:=Lib.hid (o_i HW.out (HX.out.trans (o_d (e:=fe) HK.out HPD.out HDR.out he)))
     have e1:(fe != 0)=true:=by simpa using he
     obtain⟨⟨m0,f0⟩,⟨m1,f1⟩,q0,q1⟩:=d_4 HS4.out.new.old (.int .i64 k) (.int .i64 fe);clear HRW;go_wp2_with fail
     (try simp only[Exit.inBlock,Exit.then])
     refine bodyPost_ret (v:=.tuple #[.slice none 0 0,faultV k fe]) ?_ rfl (h_q HF.out (((b_x HS4.out.new.old).setCell (Nat.le_refl _) _).setCell (Nat.le_refl _) _));simp[results,Tryz.results50,go_sem,q0,q1]
   ·have hke:l.length≤k:=by rw[HL.out];omega
    have HF:=Lib.hid (q_G HW.out (HX.out.trans (t_b HK.out (by rw[List.length_map];exact hke))));obtain⟨⟨m0,f0⟩,⟨m1,f1⟩,q0,q1⟩:=d_4 HS.out.new.old (.int .i64 0) (.int .i64 0);clear HK;go_wp2_with fail
    (try simp only[Exit.inBlock,Exit.then])
    refine bodyPost_ret (v:=.tuple #[u11,faultV 0 0]) ?_ rfl ?_
    ·simp[results,Tryz.results50,go_sem,q0,q1]
    ·rw[HF.out]
     exact⟨_,l',rfl,NewC.put2 HS.out.new _ _,rfl,HS.out.few⟩
end Cert
namespace Cert
theorem f_y{w w':World}{k:Nat}{e:Int}{r:Nat×Int}(h:r=(k,e))(hb:Below w.heap.size w w'):a_y w (faultV r.1 r.2) (.returned (faultV k e)) w':=by subst h;exact⟨rfl,hb⟩
section
variable {m : Mp} {ds : List Drv} {os : List FleetMath.Ord} {p : List Rte} {k : Nat} {r : Rte} {c : List (List Vis)} {v : List Vis} {X : Nat × Int} {e : Int}
theorem o_f(h:X=a_N m ds os k (p.drop k) (c.drop k))(hp:p.drop k=r::p.drop (k+1))(hc:c.drop k=v::c.drop (k+1))(hd:e_9 m ds os r v=e)(hn:e≠0):X=(k,e):=by
 cases hx:a_o ds r.drv with
 |none=>
  rw[d_2 hx]at hd;subst hd;exact s_r h hp hc hx
 |some d=>
  rw[d_3 hx]at hd;exact q_H h hp hc hx hd hn
theorem q_B(h:X=a_N m ds os k (p.drop k) (c.drop k))(hp:p.drop k=r::p.drop (k+1))(hc:c.drop k=v::c.drop (k+1))(hd:e_9 m ds os r v=0):X=a_N m ds os (k+1) (p.drop (k+1)) (c.drop (k+1)):=by
 cases hx:a_o ds r.drv with
 |none=>
  rw[d_2 hx]at hd;cases hd
 |some d=>
  rw[d_3 hx]at hd;exact s_s h hp hc hx hd
end
theorem q_C(base:Nat)(pv:Value)(m:Option Mp)(A:Option Addr)(n c:Nat)(ds:List Drv)(A2:Option Addr)(n2 c2:Nat)(os:List FleetMath.Ord)(A3:Option Addr)(n3 c3:Nat)(l:List RM)(A5:Option Addr)(n5 c5:Nat)(cl:List CM)(w:World)(hnc:n≤c)(hnc2:n2≤c2)
 (h:MapP w 92 base pv m) (hd:Drvs w w.heap.size A n ds) (ho:Ords w w.heap.size A2 n2 os) (hl:Plns w w.heap.size A3 n3 l) (hcl:Crts w w.heap.size A5 n5 cl):
 Calls Tryz.prog 70 #[pv,.slice A n c,.slice A2 n2 c2,.slice A3 n3 c3,.slice A5 n5 c5] w (a_y w (faultV (d_l m ds os (l.map (·.rt)) (cl.map (·.vs))).1 (d_l m ds os (l.map (·.rt)) (cl.map (·.vs))).2)):=by
 have hm:=Recs.le hl.rows;have hm5:=Recs.le hcl.rows;have HD:=Lib.hid hd;have HO:=Lib.hid ho;have HP:=Lib.hid hl;have HL:=Lib.hid hl.length;have HC5:=Lib.hid hcl;have HL5:=Lib.hid hcl.length;have HM:=Lib.hid h;obtain⟨rw',hrw⟩:∃r,b_y m ds os (l.map (·.rt))=r:=⟨_,rfl⟩;have HW:=Lib.hid hrw
 obtain⟨q,hq⟩:∃q,pv=.pointer q:=by
  rcases h with⟨rfl,_⟩|⟨b,_,_,rfl,_⟩
  ·exact⟨_,rfl⟩
  ·exact⟨_,rfl⟩
 subst hq;obtain⟨X,hX⟩:∃X,d_l m ds os (l.map (·.rt)) (cl.map (·.vs))=X:=⟨_,rfl⟩;have HX:=Lib.hid hX;rw[hX];have HS0:Hid (Below (GX w q A n c A2 n2 c2).heap.size (GX w q A n c A2 n2 c2) (GX w q A n c A2 n2 c2)):=Below.refl _ _;have HB0:=Lib.hid (GX.below (w:=w) (q:=q) (A:=A) (n:=n) (c:=c) (A2:=A2) (n2:=n2) (c2:=c2));clear h hd ho hl hrw hcl hX;go_enter Tryz.func70,Tryz.ntmps70;go_wp2_with fail
 refine(e_k base q m A n c ds A2 n2 c2 os A3 n3 c3 l rw' _ hnc hnc2 (by exact HM.out.keep HB0.out) (by exact Recs.more (Recs.keep HD.out HB0.out) HB0.out.size) (by exact Recs.more (Recs.keep HO.out HB0.out) HB0.out.size) (by exact(HP.out.keep HB0.out).more HB0.out.size) HW.out).mono ?_;rintro e w1 ⟨rfl,hb1⟩;have HS1:=Lib.hid (e_O HS0.out hb1);clear hb1 HS0 HB0;cases rw' with
 |false=>
  have HF:=Lib.hid (HX.out.symm.trans (i_C HW.out));obtain⟨⟨m0,f0⟩,⟨m1,f1⟩,q0,q1⟩:=d_4 HS1.out (.int .i64 0) (.int .i64 1);go_wp2_with fail
  (try simp only[Exit.inBlock,Exit.then])
  refine bodyPost_ret (v:=faultV 0 1) ?_ rfl (f_y HF.out (((b_x HS1.out).setCell (Nat.le_refl _) _).setCell (Nat.le_refl _) _));simp[results,Tryz.results70,go_sem,q0,q1]
 |true=>
  obtain⟨mm,rfl,_,hkn,hrt,hdr,_⟩:=a_K HW.out;obtain⟨mn,ml⟩:=mm;have HOK:=Lib.hid (e_v hkn);have HRT:=Lib.hid hrt;have HDR:=Lib.hid hdr;obtain⟨bm,hbm⟩:=h_6 HM.out;subst hbm;clear hkn hrt hdr;by_cases hlen:n5=n3
  ·subst hlen
   have HX0:Hid (X=a_N ⟨mn,ml⟩ ds os 0 ((l.map (·.rt)).drop 0) ((cl.map (·.vs)).drop 0)):=Lib.hid (by
    rw[List.drop_zero,List.drop_zero,←HX.out];exact i_D HW.out (by rw[List.length_map,List.length_map,HL.out,HL5.out]))
   go_wp2_with fail
   go_loopw [32] (fun i wr=>∃(k:Nat),k≤n5∧i=.int .i64 k∧Hid (Below (GX w (some ⟨bm,0,none⟩) A n c A2 n2 c2).heap.size (GX w (some ⟨bm,0,none⟩) A n c A2 n2 c2) wr)∧Hid (X=a_N ⟨mn,ml⟩ ds os k ((l.map (·.rt)).drop k) ((cl.map (·.vs)).drop k))) (fun i _=>n5-(intOf i).toNat)
   case atStart=>exact⟨0,Nat.zero_le _,rfl,HS1,HX0⟩
   case round=>
    clear HX0 HS1;obtain⟨k,hk,rfl,HS,HK⟩:=hrel;by_cases hlt:k<n5
    ·obtain⟨b,off,x,rfl,hbb,hx,hdr,c0,c1,c2',hst,hxc⟩:=(HP.out.keep (b_x HS.out)).at_ hlt
     obtain⟨b5,off5,y,rfl,hbb5,hy,hdy,_⟩:=(HC5.out.keep (b_x HS.out)).at_ hlt;have HXX:=Lib.hid hx;have HYY:=Lib.hid hy
     have h80:x.n≤80:=by
      have h1:=c_0 (a_R HRT.out (List.mem_map.2 ⟨x,List.mem_of_getElem? hx,rfl⟩));rw[hst.length]at h1;exact h1
     have HPD:Hid ((l.map (·.rt)).drop k=x.rt::(l.map (·.rt)).drop (k+1)):=by
      show _=_;rw[← List.map_drop,hdr,List.map_cons,List.map_drop]
     have HCD:Hid ((cl.map (·.vs)).drop k=y.vs::(cl.map (·.vs)).drop (k+1)):=by
      show _=_;rw[← List.map_drop,hdy,List.map_cons,List.map_drop]
     obtain⟨fe,hfe⟩:∃e,e_9 ⟨mn,ml⟩ ds os x.rt y.vs=e:=⟨_,rfl⟩;have HFE:=Lib.hid hfe;have HS2:Hid (Below (GX w (some ⟨bm,0,none⟩) A n c A2 n2 c2).heap.size (GX w (some ⟨bm,0,none⟩) A n c A2 n2 c2) (wr.alloc (.cells #[.int .i64 x.rt.drv,.int .i64 x.rt.served,.slice x.a x.n x.c] 37))):=e_O HS.out ((Below.refl _ _).alloc (Nat.le_refl _) _);have HR2:Hid (RBox (wr.alloc (.cells #[.int .i64 x.rt.drv,.int .i64 x.rt.served,.slice x.a x.n x.c] 37)) wr.heap.size x):=Blk.new wr _ _;clear hx hdr hst hy hdy hfe;go_upto_region 9 with fail
     obtain⟨w3,hw3⟩:∃u,wr.alloc (.cells #[.int .i64 x.rt.drv,.int .i64 x.rt.served,.slice x.a x.n x.c] 37)=u:=⟨_,rfl⟩;obtain⟨gr,hgr⟩:∃g,wr.heap.size=g:=⟨_,rfl⟩;rw[hw3]at HS2 HR2 ⊢;rw[hgr]at HR2 ⊢;clear hw3 hgr HS c0 c1 c2'
     have HDV:Hid (∀ u,Below w3.heap.size w3 u→Calls Tryz.prog 127 #[d_m (some ⟨bm,0,none⟩) A n c A2 n2 c2,rteV x,.slice y.a y.n y.c] u fun en u'=>en=.returned (.int .i64 fe)∧Below w3.heap.size w3 u'):=
      Lib.hid fun u hu=>by
       have hb0:=(b_x HS2.out).trans (hu.mono (b_x HS2.out).size);refine(m_r base bm mn ml A n c ds A2 n2 c2 os x y.a y.n y.c y.vs fe u hxc h80 (HM.out.keep hb0) (Recs.more (Recs.keep HD.out hb0) hb0.size) (Recs.more (Recs.keep HO.out hb0) hb0.size) (Recs.more (((HP.out.keep hb0).cells HXX.out).2.2.2.2.1) hb0.size) (Recs.more (((HC5.out.keep hb0).cells HYY.out).2.2.1) hb0.size) HDR.out HOK.out HFE.out).mono ?_;exact fun en u' hx=>⟨hx.1,hu.trans (hx.2.mono hu.size)⟩
     have HC:Hid (∀ u,Below w3.heap.size w3 u→(u.cell? ⟨w.heap.size+1,0,none⟩=some (.pointer (some ⟨bm,0,none⟩))∧u.cell? ⟨w.heap.size+1,1,none⟩=some (.slice A n c)∧u.cell? ⟨w.heap.size+1,2,none⟩=some (.slice A2 n2 c2))∧(u.cell? ⟨gr,0,none⟩=some (.int .i64 x.rt.drv)∧u.cell? ⟨gr,1,none⟩=some (.int .i64 x.rt.served)∧u.cell? ⟨gr,2,none⟩=some (.slice x.a x.n x.c))∧u.cell? ⟨b5,off5+k,none⟩=some (.slice y.a y.n y.c)):=
      Lib.hid fun u hu=>⟨(r_5 (e_O HS2.out hu)).cells,(HR2.out.below hu).cells,((HC5.out.keep ((b_x HS2.out).trans (hu.mono (b_x HS2.out).size))).cells HYY.out).2.1⟩
     go_cut [14] (fun va wx=>va=.int .i64 fe∧Hid (Below w3.heap.size w3 wx))
     case first=>
      go_region_held3 (fun u=>(u.cell? ⟨w.heap.size+1,0,none⟩=some (.pointer (some ⟨bm,0,none⟩))∧u.cell? ⟨w.heap.size+1,1,none⟩=some (.slice A n c)∧u.cell? ⟨w.heap.size+1,2,none⟩=some (.slice A2 n2 c2))∧(u.cell? ⟨gr,0,none⟩=some (.int .i64 x.rt.drv)∧u.cell? ⟨gr,1,none⟩=some (.int .i64 x.rt.served)∧u.cell? ⟨gr,2,none⟩=some (.slice x.a x.n x.c))∧u.cell? ⟨b5,off5+k,none⟩=some (.slice y.a y.n y.c))
       (first
         |exact HC.out _ (Below.refl _ _).drew
         |exact HC.out _ (by assumption)
         |exact HC.out _ (Below.drew (by assumption)))
       (first
         |(go_at_call 127;(refine(HDV.out _ (by first|assumption|exact(Below.refl _ _).drew)).mono ?_);rintro e w' ⟨rfl,hbx⟩))
      all_goals
       go_wp2_with fail
       go_meet
       exact⟨rfl,by assumption⟩
     case rest=>
     clear HC HDV;obtain⟨rfl,HB4⟩:=hcut;obtain⟨w4,rfl⟩:∃w,w=wc:=⟨_,rfl⟩;have HS4:=Lib.hid (e_O HS2.out HB4.out);clear HR2 HS2 HB4;by_cases he:fe=0
     ·subst he
      have HN:=Lib.hid (q_B HK.out HPD.out HCD.out HFE.out);go_wp2_with fail
      go_roundw
      case rel=>exact⟨k+1,by omega,by go_num,HS4,HN⟩
      case measure=>simp[intOf];omega
     ·have HF:=Lib.hid (o_f HK.out HPD.out HCD.out HFE.out he)
      have e1:(fe != 0)=true:=by simpa using he
      obtain⟨⟨m0,f0⟩,⟨m1,f1⟩,q0,q1⟩:=d_4 HS4.out (.int .i64 k) (.int .i64 fe);go_wp2_with fail
      (try simp only[Exit.inBlock,Exit.then])
      refine bodyPost_ret (v:=faultV k fe) ?_ rfl (f_y HF.out (((b_x HS4.out).setCell (Nat.le_refl _) _).setCell (Nat.le_refl _) _));simp[results,Tryz.results70,go_sem,q0,q1]
    ·have HF:=Lib.hid (t_c HK.out (by rw[List.length_map,HL.out];omega))
     obtain⟨⟨m0,f0⟩,⟨m1,f1⟩,q0,q1⟩:=d_4 HS.out (.int .i64 0) (.int .i64 0);clear HK;go_wp2_with fail
     (try simp only[Exit.inBlock,Exit.then])
     refine bodyPost_ret (v:=faultV 0 0) ?_ rfl (f_y HF.out (((b_x HS.out).setCell (Nat.le_refl _) _).setCell (Nat.le_refl _) _));simp[results,Tryz.results70,go_sem,q0,q1]
  ·have HF:=Lib.hid (HX.out.symm.trans (h_d HW.out (by rw[List.length_map,List.length_map,HL.out,HL5.out];exact hlen)))
   obtain⟨⟨m0,f0⟩,⟨m1,f1⟩,q0,q1⟩:=d_4 HS1.out (.int .i64 0) (.int .i64 4);have e1:((n5:Int) != (n3:Int))=true:=by simp only[bne_iff_ne,ne_eq];omega
   go_wp2_with fail
   (try simp only[Exit.inBlock,Exit.then])
   refine bodyPost_ret (v:=faultV 0 4) ?_ rfl (f_y HF.out (((b_x HS1.out).setCell (Nat.le_refl _) _).setCell (Nat.le_refl _) _));simp[results,Tryz.results70,go_sem,q0,q1]
end Cert
end Go.Proofs.YtkpnmpjnpcjohaaGreat
