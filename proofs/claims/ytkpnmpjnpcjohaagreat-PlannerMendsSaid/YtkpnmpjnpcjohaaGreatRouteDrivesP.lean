import Derived.Test.YtkpnmpjnpcjohaaGreatRouteSmall
import Derived.Test.YtkpnmpjnpcjohaaGreatDealPs
set_option maxHeartbeats 4000000
set_option maxRecDepth 100000
namespace Go.Proofs.YtkpnmpjnpcjohaaGreat
open ChangeShapes WideShapes ChangeAt RowKit Mem GeoMath FleetMath Rec Geo Span Deal
namespace Route
structure But(g:Nat)(w w':World):Prop where
 below:Below g w w'
 size:w.heap.size≤w'.heap.size
 other:∀h,h<w.heap.size→h≠g→w'.heap[h]?=w.heap[h]?
section
variable {g : Nat} {w u u' : World}
theorem But.of(h:Below w.heap.size w u)(hg:g≤w.heap.size):But g w u:=⟨h.mono hg,h.size,fun _ hl _=>h.block _ hl⟩
theorem But.set(h:But g w u)(i:Nat)(x:Value):But g w (u.setCell ⟨g,i,none⟩ x):=
 ⟨h.below.setCell (Nat.le_refl _) _,by simpa using h.size,fun q hq hn=>(Below.heap_setCell u _ _ _ hn).trans (h.other q hq hn)⟩
theorem But.new(h:But g w u){b:Nat}(hb:w.heap.size≤b)(hg:g≤b)(i:Nat)(x:Value):But g w (u.setCell ⟨b,i,none⟩ x):=
 ⟨h.below.setCell hg _,by simpa using h.size,fun q hq hn=>(Below.heap_setCell u _ _ _ (by show q≠b;omega)).trans (h.other q hq hn)⟩
theorem But.next(h:But g w u)(hb:Below u.heap.size u u')(hg:g≤u.heap.size):But g w u':=
 ⟨h.below.trans (hb.mono hg),Nat.le_trans h.size hb.size,fun q hq hn=>(hb.block q (Nat.lt_of_lt_of_le hq h.size)).trans (h.other q hq hn)⟩
end
theorem l_4{g b:Nat}{w u:World}(h:But g w u)(hb:w.heap.size≤b)(hg:g≤b)(x:Vis):But g w (putV u b x):=
 (((((h.new hb hg _ _).new hb hg _ _).new hb hg _ _).new hb hg _ _).new hb hg _ _).new hb hg _ _
def q_g(w:World)(g:Nat)(q:Option Addr)(d:Drv)(A:Option Addr)(n c:Nat)(r:Except Int (St×Vis))(e:Ending)(w':World):Prop:=
 match r with
 | .error x=>e=.returned (.tuple #[visV vis0,.int .i64 x])∧Below w.heap.size w w'
 | .ok p=>e=.returned (.tuple #[visV p.2,.int .i64 0])∧TBox w' g q d A n c p.1∧But g w w'
theorem e_H{w w':World}{g:Nat}{q:Option Addr}{d:Drv}{A:Option Addr}{n c:Nat}{r:Except Int (St×Vis)}{x:Int}(h:r=.error x)(hb:Below w.heap.size w w'):q_g w g q d A n c r (.returned (.tuple #[visV vis0,.int .i64 x])) w':=by
 subst h;exact⟨rfl,hb⟩
theorem q_h{w w':World}{g:Nat}{q:Option Addr}{d:Drv}{A:Option Addr}{n c:Nat}{r:Except Int (St×Vis)}{st:St}{v:Vis}(h:r=.ok (st,v))(ht:TBox w' g q d A n c st)(hb:But g w w'):q_g w g q d A n c r (.returned (.tuple #[visV v,.int .i64 0])) w':=by
 subst h;exact⟨rfl,ht,hb⟩
structure SS(w:World)(s:Stp)(u:World):Prop where
 old:Below w.heap.size w u
 stp:Blk u w.heap.size 48 [.int .i64 s.ord,.bool s.drop]
 res:VBox u (w.heap.size+1) vis0
section
variable {w u u' : World} {s : Stp}
theorem SS.next(h:SS w s u)(hb:Below u.heap.size u u'):SS w s u':=⟨h.old.trans (hb.mono h.old.size),h.stp.below hb h.stp.lt,h.res.below hb⟩
theorem SS.drew(h:SS w s u):SS w s u.drew:=h.next (Below.refl _ _).drew
theorem SS.alloc(h:SS w s u)(o:Obj):SS w s (u.alloc o):=h.next ((Below.refl _ _).alloc (Nat.le_refl _) _)
theorem SS.bad(h:SS w s u):Below w.heap.size w (putV u (w.heap.size+1) vis0):=c_3 h.old (Nat.le_succ _) vis0
theorem SS.put(h:SS w s u){b:Nat}(hb:w.heap.size+2≤b)(i:Nat)(x:Value):SS w s (u.setCell ⟨b,i,none⟩ x):=
 ⟨h.old.setCell (Nat.le_trans (by omega) hb) _,(Below.heap_setCell u _ _ _ (by show w.heap.size≠b;omega)).trans h.stp,(Below.heap_setCell u _ _ _ (by show w.heap.size+1≠b;omega)).trans h.res⟩
theorem SS.size(h:SS w s u):w.heap.size+2≤u.heap.size:=by have:=Blk.lt h.res;omega
end
theorem b_7{g h:Nat}(hne:g≠h):∀(u:World) (i j:Nat) (v:Value),(u.setCell ⟨g,i,none⟩ v).cell? ⟨h,j,none⟩=u.cell? ⟨h,j,none⟩:=fun u i j v=>World.cell?_setCell_other u _ _ v fun e=>hne (by injection e)
abbrev putS(u:World)(g:Nat)(si:Site):World:=((((u.setCell ⟨g,0,none⟩ (.int .i64 si.place)).setCell ⟨g,1,none⟩ (.int .i64 si.win.fr)).setCell ⟨g,2,none⟩ (.int .i64 si.win.to)).setCell ⟨g,3,none⟩ (.int .i64 si.serv))
theorem l_5{u:World}{g:Nat}{x:Site}(h:SBox u g x)(si:Site):SBox (putS u g si) g si:=by
 unfold SBox at h ⊢;exact((((h.put 0 (.int .i64 si.place)).put 1 (.int .i64 si.win.fr)).put 2 (.int .i64 si.win.to)).put 3 (.int .i64 si.serv))
theorem s_4{w u:World}{g:Nat}{s:Stp}(h:SS w s u)(hb:w.heap.size+2≤g)(si:Site):SS w s (putS u g si):=((((h.put hb _ _).put hb _ _).put hb _ _).put hb _ _)
theorem h_C(r:Option FleetMath.Ord):∃o ok,f_n r=.tuple #[ordV o,.bool ok]∧(ok=true→r=some o)∧(ok=false→r=none):=by
 cases r with
 |none=>exact⟨ord0,false,rfl,fun h=>(by cases h),fun _=>rfl⟩
 |some o=>exact⟨o,true,rfl,fun _=>rfl,fun h=>(by cases h)⟩
theorem n_O(a:Int)(o:Option (Int×Int)):∃v ok,j_M a o=.tuple #[visV v,.bool ok]∧(ok=true→∃b l,o=some (b,l)∧v=⟨⟨0,false⟩,a,b,l,0⟩)∧(ok=false→o=none):=by
 cases o with
 |none=>exact⟨vis0,false,rfl,fun h=>(by cases h),fun _=>rfl⟩
 |some p=>exact⟨⟨⟨0,false⟩,a,p.1,p.2,0⟩,true,rfl,fun _=>⟨p.1,p.2,rfl,rfl⟩,fun h=>(by cases h)⟩
theorem r_V(A:Option Addr)(n c:Nat)(os:List FleetMath.Ord)(id:Int)(o:FleetMath.Ord)(ok:Bool)(u0 u:World)(hb:Below u0.heap.size u0 u)(ho:Ords u0 u0.heap.size A n os)(hf:f_n (find os id)=.tuple #[ordV o,.bool ok]):
 Calls Tryz.prog 245 #[.slice A n c,.int .i64 id] u fun e w'=>e=.returned (.tuple #[ordV o,.bool ok])∧Below u0.heap.size u0 w'∧Below u.heap.size u w':=by
 rw[← hf];exact(q_m A n c os id u (Recs.more (Recs.keep ho hb) hb.size)).mono fun e w' ⟨h1,h2⟩=>⟨h1,hb.trans (h2.mono hb.size),h2⟩
theorem q_i{v:List Value}{t:TypeId}{w w':World}(hb:Below (w.alloc (.cells v.toArray t)).drew.heap.size (w.alloc (.cells v.toArray t)).drew w'):Blk w' w.heap.size t v:=by
 have h:Blk (w.alloc (.cells v.toArray t)).drew w.heap.size t v:=Blk.new w t v;exact h.below hb h.lt
theorem r_W(base bm mn:Nat)(ml:List Int)(d:Drv)(A:Option Addr)(n c:Nat)(st:St)(g:Nat)(si:Site)(v:Vis)(ok:Bool)(w:World)(ht:TBox w g (some ⟨bm,0,none⟩) d A n c st)(hm:MapAt w 92 base bm mn ml)(hn:mn≤12)(hmap:IsMap mn ml)
 (lf1:0≤st.left) (lf2:st.left≤2000000) (sv1:0≤si.serv) (sv2:si.serv≤1000000) (hv:j_M (st.left+time ⟨mn,ml⟩ st.at_ si.place) (FleetMath.served ⟨mn,ml⟩ st.at_ st.left si d.win.to)=.tuple #[visV v,.bool ok]):
 Calls Tryz.prog 246 #[.pointer (some ⟨g,0,none⟩),h_7 si] w (a_y w (.tuple #[visV v,.bool ok])):=by
 rw[← hv];exact n_R base bm mn ml d A n c st g si w ht hm hn hmap lf1 lf2 sv1 sv2
theorem q_j(base bm mn:Nat)(ml:List Int)(d:Drv)(A:Option Addr)(n c:Nat)(os:List FleetMath.Ord)(st:St)(g:Nat)(s:Stp)(A':Option Addr)(k c':Nat)(seen:List Stp)(w:World)
 (ht:TBox w g (some ⟨bm,0,none⟩) d A n c st) (hm:MapAt w 92 base bm mn ml) (hmn:mn≤12) (hmap:IsMap mn ml) (ho:Ords w w.heap.size A n os) (hs:Stps w w.heap.size A' k seen) (hok:∀o∈os,OrdOk ⟨mn,ml⟩ o)
 (lf1:0≤st.left) (lf2:st.left≤2000000) (ll1:-1000000≤st.load) (ll2:st.load≤1000000):
 Calls Tryz.prog 219 #[.pointer (some ⟨g,0,none⟩),stpV s,.slice A' k c'] w (q_g w g (some ⟨bm,0,none⟩) d A n c (FleetMath.step ⟨mn,ml⟩ d os seen st s)):=by
 have HT:=Lib.hid ht;have HM:=Lib.hid hm;have HMAP:=Lib.hid hmap;have HO:=Lib.hid ho;have HS:=Lib.hid hs;have HOK:=Lib.hid hok;have HG:=Lib.hid (Blk.lt ht);obtain⟨r,hr⟩:∃r,FleetMath.step ⟨mn,ml⟩ d os seen st s=r:=⟨_,rfl⟩;rw[hr];have HR:=Lib.hid hr;obtain⟨o,ok,hfv,hf1,hf0⟩:=h_C (find os s.ord);have HFV:=Lib.hid hfv;have HF1:=Lib.hid hf1;have HF0:=Lib.hid hf0;clear ht hm hmap ho hs hok hr hfv hf1 hf0;go_enter Tryz.func219,Tryz.ntmps219;go_upto_region 1 with fail
 obtain⟨u0,hu0⟩:∃u,(w.alloc (.cells #[.int .i64 s.ord,.bool s.drop] 48)).alloc (.cells #[.int .i64 0,.bool false,.int .i64 0,.int .i64 0,.int .i64 0,.int .i64 0] 245)=u:=⟨_,rfl⟩;have b1:Below w.heap.size w (w.alloc (.cells #[.int .i64 s.ord,.bool s.drop] 48)):=(Below.refl _ _).alloc (Nat.le_refl _) _
 have S0:Hid (SS w s u0):=by
  have f0:Blk (w.alloc (.cells #[.int .i64 s.ord,.bool s.drop] 48)) w.heap.size 48 [.int .i64 s.ord,.bool s.drop]:=Blk.new w _ _;have f:=Blk.new (w.alloc (.cells #[.int .i64 s.ord,.bool s.drop] 48)) 245 [.int .i64 0,.bool false,.int .i64 0,.int .i64 0,.int .i64 0,.int .i64 0];rw[World.size_alloc]at f;rw[← hu0];exact⟨b1.alloc b1.size _,f0.below ((Below.refl _ _).alloc (Nat.le_refl _) _) f0.lt,f⟩
 rw[hu0];clear b1 hu0
 have HC:Hid (∀ u,Below u0.heap.size u0 u→(u.cell? ⟨g,7,none⟩=some (.slice A n c)∧u.cell? ⟨w.heap.size,0,none⟩=some (.int .i64 s.ord))∧Below u0.heap.size u0 u):=fun u hu=>by
  have h1:=S0.out.next hu;have h2:=(HT.out.below h1.old).cells;exact⟨⟨h2.2.2.2.2.2.2.2.1,h1.stp.cell rfl⟩,hu⟩
 have HO0:Hid (Ords u0 u0.heap.size A n os):=Recs.more (Recs.keep HO.out S0.out.old) S0.out.old.size;go_cut [8,9] (fun ov bv wx=>∃go,ov=.pointer (some ⟨go,0,none⟩)∧bv=.bool ok∧Hid (w.heap.size+2≤go)∧Hid (SS w s wx)∧Hid (OBox wx go o))
 case first=>
  have HCA:Hid (∀ o,(u0.alloc o).cell? ⟨g,7,none⟩=some (.slice A n c)∧(u0.alloc o).cell? ⟨w.heap.size,0,none⟩=some (.int .i64 s.ord)):=fun o=>(HC.out _ ((Below.refl _ _).alloc (Nat.le_refl _) o)).1;obtain⟨k1,k2⟩:=(HC.out _ (Below.refl _ _)).1;have k3:=fun o=>(HCA.out o).1;have k4:=fun o=>(HCA.out o).2;go_region_with (go_at_call 245;(refine(r_V A n c os s.ord o ok u0 _ (by first|assumption|exact(Below.refl _ _).drew|exact((Below.refl _ _).alloc (Nat.le_refl _) _).drew) HO0.out HFV.out).mono ?_);rintro e w' ⟨rfl,hbx,hby⟩;(try (have hbox:=Lib.hid (q_i hby);have hcs:=a_c u0.heap.size;have hfs:=a_d;have hff:=hbox.out.free;obtain⟨x0,x1,x2,x3,x4,x5,x6,x7,x8,x9⟩:=e_2 hbox.out)))
  all_goals
   go_wp2_with fail
   go_meet
   first
    |exact⟨_,rfl,rfl,Nat.le_trans S0.out.size hbx.size,(S0.out.next hbx).alloc _,Blk.new w' _ _⟩
    |exact⟨_,rfl,rfl,S0.out.size,S0.out.next (b_t hbx (Nat.le_refl _) o),c_n hbox.out o⟩
 case rest=>
 obtain⟨go,rfl,rfl,HGO,S1,HX1⟩:=hcut;obtain⟨w1,rfl⟩:∃u,u=wc:=⟨_,rfl⟩;clear S0 HO0 HC HFV;cases ok with
 |false=>
  have HD:Hid (r=.error 8):=by show r=_;rw[← HR.out];exact i_6 (HF0.out rfl)
  have HB:=Lib.hid S1.out.bad;have hcs:=a_c (w.heap.size+1);have hfs:=a_d;have hff:=Blk.free S1.out.res;obtain⟨x0,x1,x2,x3,x4,x5⟩:=S1.out.res.cells;have HRS:=Lib.hid (b_8 S1.out.res vis0).cells;go_wp2_with fail
  refine bodyPost_ret (v:=.tuple #[visV vis0,.int .i64 8]) ?_ rfl (e_H HD.out HB.out);obtain⟨r0,r1,r2,r3,r4,r5⟩:=HRS.out;simp[results,Tryz.results219,go_sem,r0,r1,r2,r3,r4,r5]
 |true=>
 have HFO:=Lib.hid (HF1.out rfl);have HKO:=Lib.hid (HOK.out o (c_d HFO.out).1);clear HF1 HF0 HOK;obtain⟨t1,ht1⟩:∃b,decide (s∈seen)=b:=⟨_,rfl⟩;have T1:=Lib.hid ht1;clear ht1;obtain⟨y0,y1⟩:w1.cell? ⟨w.heap.size,0,none⟩=some (.int .i64 s.ord)∧w1.cell? ⟨w.heap.size,1,none⟩=some (.bool s.drop):=⟨S1.out.stp.cell rfl,S1.out.stp.cell rfl⟩;go_wp2_with fail
 refine(c_D A' k c' seen s _ t1 (Recs.more (Recs.keep HS.out S1.out.old) S1.out.old.size) T1.out).mono ?_;rintro e w2 ⟨rfl,hb⟩;have S2:=Lib.hid (S1.out.next hb);have HX2:=Lib.hid (HX1.out.below hb);clear hb y0 y1 S1 HX1;cases t1 with
 |true=>
  have HD:Hid (r=.error 16):=by show r=_;rw[← HR.out];exact m_Z HFO.out (of_decide_eq_true T1.out)
  have HB:=Lib.hid S2.out.bad;have hcs:=a_c (w.heap.size+1);have hfs:=a_d;have hff:=Blk.free S2.out.res;obtain⟨x0,x1,x2,x3,x4,x5⟩:=S2.out.res.cells;have HRS:=Lib.hid (b_8 S2.out.res vis0).cells;go_wp2_with fail
  refine bodyPost_ret (v:=.tuple #[visV vis0,.int .i64 16]) ?_ rfl (e_H HD.out HB.out);obtain⟨r0,r1,r2,r3,r4,r5⟩:=HRS.out;simp[results,Tryz.results219,go_sem,r0,r1,r2,r3,r4,r5]
 |false=>
 have HNEW:=Lib.hid (of_decide_eq_false T1.out);clear T1;obtain⟨t2,ht2⟩:∃b,decide (Stp.mk s.ord false∈seen)=b:=⟨_,rfl⟩;have T2:=Lib.hid ht2;clear ht2;obtain⟨y0,y1⟩:w2.cell? ⟨w.heap.size,0,none⟩=some (.int .i64 s.ord)∧w2.cell? ⟨w.heap.size,1,none⟩=some (.bool s.drop):=⟨S2.out.stp.cell rfl,S2.out.stp.cell rfl⟩;go_upto_region 6 with fail
 go_cut [32] (fun bv wx=>∃t3:Bool,bv=.bool t3∧Hid (t3=true→s.drop=true∧t2=false)∧Hid (t3=false→s.drop=true→t2=true)∧Hid (SS w s wx)∧Hid (OBox wx go o))
 case first=>
  cases hsd:s.drop with
  |false=>
   rw[hsd]at y1;go_wp2_with fail
   go_meet
   exact⟨false,rfl,fun h=>(by cases h),fun _ h=>(by rw[hsd]at h;cases h),S2,HX2⟩
  |true=>
   rw[hsd]at y1;go_wp2_with fail
   refine(c_D A' k c' seen ⟨s.ord,false⟩ _ t2 (Recs.more (Recs.keep HS.out S2.out.old) S2.out.old.size) T2.out).mono ?_;rintro e w3 ⟨rfl,hb⟩;have S3:=Lib.hid (S2.out.next hb);have HX3:=Lib.hid (HX2.out.below hb);clear hb;go_wp2_with fail
   go_meet
   exact⟨!t2,rfl,fun h=>⟨hsd,by simpa using h⟩,fun h _=>by simpa using h,S3,HX3⟩
 case rest=>
 obtain⟨t3,rfl,HT3,HT3n,S3,HX3⟩:=hcut;obtain⟨w3,rfl⟩:∃u,u=wc:=⟨_,rfl⟩;clear S2 HX2 y0 y1;cases t3 with
 |true=>
  have HF17:=Lib.hid (HT3.out (by trivial));have HD:Hid (r=.error 17):=by show r=_;rw[← HR.out];exact m_0 HFO.out HNEW.out HF17.out.1 (of_decide_eq_false (by rw[T2.out];exact HF17.out.2))
  have HB:=Lib.hid S3.out.bad;have hcs:=a_c (w.heap.size+1);have hfs:=a_d;have hff:=Blk.free S3.out.res;obtain⟨x0,x1,x2,x3,x4,x5⟩:=S3.out.res.cells;have HRS:=Lib.hid (b_8 S3.out.res vis0).cells;go_wp2_with fail
  refine bodyPost_ret (v:=.tuple #[visV vis0,.int .i64 17]) ?_ rfl (e_H HD.out HB.out);obtain⟨r0,r1,r2,r3,r4,r5⟩:=HRS.out;simp[results,Tryz.results219,go_sem,r0,r1,r2,r3,r4,r5]
 |false=>
 have HFST:Hid (s.drop=true→Stp.mk s.ord false∈seen):=fun h=>of_decide_eq_true (by rw[T2.out];exact HT3n.out (by trivial) h);clear HT3 HT3n T2;obtain⟨sz1,sz2⟩:=HKO.out.size;obtain⟨o0,o1,o2,o3,o4,o5,o6,o7,o8,o9⟩:=HX3.out.cells;have HT3:=Lib.hid (HT.out.below S3.out.old);have l10:=HT3.out.cells.2.2.2.2.2.2.2.2.2.2;go_upto_region 8 with fail
 go_cut [10,11] (fun sv lv wx=>∃gs,sv=.pointer (some ⟨gs,0,none⟩)∧lv=.int .i64 (st.load+o.size)∧Hid (w.heap.size+2≤gs)∧Hid (gs≠go)∧Hid (SS w s wx)∧Hid (OBox wx go o)∧Hid (SBox wx gs o.pick))
 case first=>
  have HCA:Hid (∀ ob,(w3.alloc ob).cell? ⟨go,1,none⟩=some (.int .i64 o.size)∧(w3.alloc ob).cell? ⟨go,2,none⟩=some (.int .i64 o.pick.place)∧(w3.alloc ob).cell? ⟨go,3,none⟩=some (.int .i64 o.pick.win.fr)∧(w3.alloc ob).cell? ⟨go,4,none⟩=some (.int .i64 o.pick.win.to)∧(w3.alloc ob).cell? ⟨go,5,none⟩=some (.int .i64 o.pick.serv)∧(w3.alloc ob).cell? ⟨g,10,none⟩=some (.int .i64 st.load)):=fun ob=>by
   have hb:Below w3.heap.size w3 (w3.alloc ob):=(Below.refl _ _).alloc (Nat.le_refl _) _;obtain⟨_,h1,h2,h3,h4,h5,_⟩:=(HX3.out.below hb).cells;exact⟨h1,h2,h3,h4,h5,(HT3.out.below hb).cells.2.2.2.2.2.2.2.2.2.2⟩
  have k1:=fun ob=>(HCA.out ob).1;have k2:=fun ob=>(HCA.out ob).2.1;have k3:=fun ob=>(HCA.out ob).2.2.1;have k4:=fun ob=>(HCA.out ob).2.2.2.1;have k5:=fun ob=>(HCA.out ob).2.2.2.2.1;have k6:=fun ob=>(HCA.out ob).2.2.2.2.2;go_region
  all_goals
   go_wp2_with fail
   go_meet
   exact⟨_,rfl,rfl,S3.out.size,Nat.ne_of_gt (Blk.lt HX3.out),(S3.out.alloc _).drew,(HX3.out.below ((Below.refl _ _).alloc (Nat.le_refl _) _)).below (Below.refl _ _).drew,Blk.new w3 _ _⟩
 case rest=>
 obtain⟨gs,rfl,rfl,HGS,HNE,S4,HX4,HY4⟩:=hcut;obtain⟨w4,rfl⟩:∃u,u=wc:=⟨_,rfl⟩;clear S3 HX3 HT3 l10 o0 o1 o2 o3 o4 o5 o6 o7 o8 o9;have HT4:=Lib.hid (HT.out.below S4.out.old);have l10:=HT4.out.cells.2.2.2.2.2.2.2.2.2.2;obtain⟨o0,o1,o2,o3,o4,o5,o6,o7,o8,o9⟩:=HX4.out.cells;obtain⟨z0,z1,z2,z3⟩:=HY4.out.cells;have y1:w4.cell? ⟨w.heap.size,1,none⟩=some (.bool s.drop):=S4.out.stp.cell rfl;obtain⟨si,hsi⟩:∃x,a_e o s=x:=⟨_,rfl⟩;have HSI:=Lib.hid hsi;obtain⟨ld,hld⟩:∃x,a_k o s st.load=x:=⟨_,rfl⟩;have HLD:=Lib.hid hld
 have hsv:0≤si.serv∧si.serv≤1000000:=by
  rw[← hsi];unfold a_e;split
  ·exact HKO.out.dropS
  ·exact HKO.out.pickS
 obtain⟨sv1,sv2⟩:=hsv
 have hlb:-2000000≤ld∧ld≤2000000:=by
  rw[← hld];unfold a_k;split<;>omega
 obtain⟨ld1,ld2⟩:=hlb;clear hsi hld;go_upto_if 54 with fail
 go_cut [11] (fun lv wx=>lv=.int .i64 ld∧Hid (SS w s wx)∧Hid (SBox wx gs si))
 case first=>
  cases hsd:s.drop with
  |false=>
   have h1:st.load+o.size=ld:=by rw[← HLD.out];unfold a_k;rw[hsd];rfl
   have h2:o.pick=si:=by rw[← HSI.out];unfold a_e;rw[hsd];rfl
   have HY5:Hid (SBox w4 gs si):=by rw[← h2];exact HY4.out
   rw[hsd]at y1;clear h2;go_wp2_with fail
   go_meet
   exact⟨by rw[h1],S4,HY5⟩
  |true=>
   have h1:st.load-o.size=ld:=by rw[← HLD.out];unfold a_k;rw[hsd];rfl
   have h2:o.drop=si:=by rw[← HSI.out];unfold a_e;rw[hsd];rfl
   rw[hsd]at y1;have hcs:=a_c gs;have hfs:=a_d;have hff:=Blk.free HY4.out;have HS5:=Lib.hid (s_4 S4.out HGS.out o.drop).drew
   have HY5:Hid (SBox (putS w4 gs o.drop).drew gs si):=by
    have:=l_5 HY4.out o.drop;rw[h2]at this ⊢;exact this
   have hca:=b_7 HNE.out;have hcb:=b_7 (g:=gs) (h:=g) (by have:=HGS.out;have:=HG.out;omega);clear h2;go_wp2_with fail
   go_region
   all_goals
    go_wp2_with fail
    go_meet
    exact⟨rfl,HS5,HY5⟩
 case rest=>
 obtain⟨rfl,S5,HY5⟩:=hcut;obtain⟨w5,rfl⟩:∃u,u=wc:=⟨_,rfl⟩;clear S4 HX4 HY4 HT4 l10 o0 o1 o2 o3 o4 o5 o6 o7 o8 o9 z0 z1 z2 z3 y1 sz1 sz2;have HT5:=Lib.hid (HT.out.below S5.out.old);have l2:=HT5.out.cells.2.2.1;by_cases hroom:d.room<ld
 ·have HRM:=Lib.hid hroom
  have HD:Hid (r=.error 14):=by show r=_;rw[← HR.out];exact p_a HFO.out HNEW.out HFST.out (by rw[HLD.out];exact HRM.out)
  have HB:=Lib.hid S5.out.bad;have hcs:=a_c (w.heap.size+1);have hfs:=a_d;have hff:=Blk.free S5.out.res;obtain⟨x0,x1,x2,x3,x4,x5⟩:=S5.out.res.cells;have HRS:=Lib.hid (b_8 S5.out.res vis0).cells;go_wp2_with fail
  refine bodyPost_ret (v:=.tuple #[visV vis0,.int .i64 14]) ?_ rfl (e_H HD.out HB.out);obtain⟨r0,r1,r2,r3,r4,r5⟩:=HRS.out;simp[results,Tryz.results219,go_sem,r0,r1,r2,r3,r4,r5]
 have HRM:Hid (a_k o s st.load≤d.room):=by show _≤_;rw[HLD.out];omega
 obtain⟨tt,htt⟩:∃t,time ⟨mn,ml⟩ st.at_ si.place=t:=⟨_,rfl⟩;have HTT:=Lib.hid htt;obtain⟨tb1,tb2⟩:=b_1 HMAP.out st.at_ si.place;rw[htt]at tb1 tb2;obtain⟨v,vok,hvv,hv1,hv0⟩:=n_O (st.left+time ⟨mn,ml⟩ st.at_ si.place) (FleetMath.served ⟨mn,ml⟩ st.at_ st.left si d.win.to);rw[htt]at hv1;have HVV:=Lib.hid hvv;have HV1:=Lib.hid hv1;have HV0:=Lib.hid hv0;obtain⟨z0,z1,z2,z3⟩:=HY5.out.cells;clear htt hvv hv1 hv0;go_wp2_with fail
 refine(r_W base bm mn ml d A n c st g si v vok _ (by exact HT5.out) (by exact HM.out.keep S5.out.old (Nat.le_refl _)) hmn HMAP.out lf1 lf2 sv1 sv2 HVV.out).mono ?_;rintro e w6 ⟨rfl,hb⟩;have S6:=Lib.hid (S5.out.next hb);have HY6:=Lib.hid (HY5.out.below hb);clear hb S5 HY5 HT5 l2 z0 z1 z2 z3 HVV;cases vok with
 |false=>
  have S7:=Lib.hid (S6.out.alloc (.cells #[.int .i64 v.stop.ord,.bool v.stop.drop,.int .i64 v.arrive,.int .i64 v.start,.int .i64 v.leave,.int .i64 v.load] 245));have HLT:=Lib.hid (HV0.out rfl);clear HV1 HV0;have HD:Hid (r=.error 15):=by show r=_;rw[← HR.out];exact m_1 HFO.out HNEW.out HFST.out HRM.out (by rw[HSI.out];exact HLT.out)
  have HB:=Lib.hid S7.out.bad;have hcs:=a_c (w.heap.size+1);have hfs:=a_d;have hff:=Blk.free S7.out.res;obtain⟨x0,x1,x2,x3,x4,x5⟩:=S7.out.res.cells;have HRS:=Lib.hid (b_8 S7.out.res vis0).cells;go_wp2_with fail
  refine bodyPost_ret (v:=.tuple #[visV vis0,.int .i64 15]) ?_ rfl (e_H HD.out HB.out);obtain⟨r0,r1,r2,r3,r4,r5⟩:=HRS.out;simp[results,Tryz.results219,go_sem,r0,r1,r2,r3,r4,r5]
 |true=>
 obtain⟨b,l,hser,rfl⟩:=HV1.out rfl
 have HD:Hid (r=.ok (⟨si.place,l,ld⟩,⟨s,st.left+tt,b,l,ld⟩)):=by
  have:=g_a HFO.out HNEW.out HFST.out HRM.out (by rw[HSI.out];exact hser);rw[HR.out,HSI.out,HLD.out,HTT.out]at this;exact this
 clear hser HV1 HV0 HNEW HFST HRM HFO HKO HR;have S7:=Lib.hid (S6.out.alloc (.cells #[.int .i64 0,.bool false,.int .i64 (st.left+tt),.int .i64 b,.int .i64 l,.int .i64 0] 245));obtain⟨y0,y1⟩:(w6.alloc (.cells #[.int .i64 0,.bool false,.int .i64 (st.left+tt),.int .i64 b,.int .i64 l,.int .i64 0] 245)).cell? ⟨w.heap.size,0,none⟩=some (.int .i64 s.ord)∧(w6.alloc (.cells #[.int .i64 0,.bool false,.int .i64 (st.left+tt),.int .i64 b,.int .i64 l,.int .i64 0] 245)).cell? ⟨w.heap.size,1,none⟩=some (.bool s.drop):=⟨S7.out.stp.cell rfl,S7.out.stp.cell rfl⟩;go_upto_region 17 with fail
 have S8:=Lib.hid (S6.out.alloc (.cells #[.int .i64 s.ord,.bool s.drop,.int .i64 (st.left+tt),.int .i64 b,.int .i64 l,.int .i64 ld] 245));have HY8:Hid (SBox (w6.alloc (.cells #[.int .i64 s.ord,.bool s.drop,.int .i64 (st.left+tt),.int .i64 b,.int .i64 l,.int .i64 ld] 245)) gs si):=HY6.out.below ((Below.refl _ _).alloc (Nat.le_refl _) _);have HV8:Hid (VBox (w6.alloc (.cells #[.int .i64 s.ord,.bool s.drop,.int .i64 (st.left+tt),.int .i64 b,.int .i64 l,.int .i64 ld] 245)) w6.heap.size ⟨s,st.left+tt,b,l,ld⟩):=Blk.new w6 _ _;have HGV:Hid (w.heap.size+2≤w6.heap.size):=S6.out.size;obtain⟨u,hu⟩:∃u,w6.alloc (.cells #[.int .i64 s.ord,.bool s.drop,.int .i64 (st.left+tt),.int .i64 b,.int .i64 l,.int .i64 ld] 245)=u:=⟨_,rfl⟩;obtain⟨gv,hgv⟩:∃q,w6.heap.size=q:=⟨_,rfl⟩;rw[hgv]at HV8 HGV ⊢;rw[hu]at S8 HY8 HV8 ⊢;clear hu hgv S7 S6 HY6 y0 y1;have HT8:=Lib.hid (HT.out.below S8.out.old);obtain⟨m0,m1,m2,m3,m4,m5,m6,m7,m8,m9,m10⟩:=HT8.out.cells;obtain⟨z0,z1,z2,z3⟩:=HY8.out.cells;have v4:=HV8.out.cells.2.2.2.2.1;go_cut [] (fun wx=>Hid (VBox wx gv ⟨s,st.left+tt,b,l,ld⟩)∧Hid (VBox wx (w.heap.size+1) vis0)∧Hid (TBox wx g (some ⟨bm,0,none⟩) d A n c ⟨si.place,l,ld⟩)∧Hid (But g w wx))
 case first=>
  have HBU:Hid (But g w (((u.setCell ⟨g,8,none⟩ (.int .i64 si.place)).setCell ⟨g,9,none⟩ (.int .i64 l)).setCell ⟨g,10,none⟩ (.int .i64 ld))):=(((But.of S8.out.old (Nat.le_of_lt HG.out)).set _ _).set _ _).set _ _;have HTU:Hid (TBox (((u.setCell ⟨g,8,none⟩ (.int .i64 si.place)).setCell ⟨g,9,none⟩ (.int .i64 l)).setCell ⟨g,10,none⟩ (.int .i64 ld)) g (some ⟨bm,0,none⟩) d A n c ⟨si.place,l,ld⟩):=((Blk.put HT8.out 8 _).put 9 _).put 10 _;have HON:Hid (Only g u (((u.setCell ⟨g,8,none⟩ (.int .i64 si.place)).setCell ⟨g,9,none⟩ (.int .i64 l)).setCell ⟨g,10,none⟩ (.int .i64 ld))):=(((Only.refl _ _).set _ _).set _ _).set _ _;have HVU:=Lib.hid (HON.out.blk HV8.out (by have:=HG.out;have:=HGV.out;omega));have HRU:=Lib.hid (HON.out.blk S8.out.res (by have:=HG.out;omega));have hcs:=a_c g;have hfs:=a_d;have hff:=Blk.free HT8.out;have hca:=b_7 (g:=g) (h:=gs) (by have:=HGS.out;have:=HG.out;omega);have hcb:=b_7 (g:=g) (h:=gv) (by have:=HGV.out;have:=HG.out;omega);clear HON;go_region
  all_goals
   go_wp2_with fail
   go_meet
   exact⟨HVU,HRU,HTU,HBU.out.next (Below.refl _ _).drew (Nat.le_trans (Nat.le_of_lt HG.out) HBU.out.size)⟩
 case rest=>
 obtain⟨HV9,HR9,HT9,HB9⟩:=hcut;obtain⟨w9,rfl⟩:∃u,u=wc:=⟨_,rfl⟩;clear S8 HY8 HV8 HT8 m0 m1 m2 m3 m4 m5 m6 m7 m8 m9 m10 z0 z1 z2 z3 v4;have HBX:Hid (But g w (putV w9 (w.heap.size+1) ⟨s,st.left+tt,b,l,ld⟩)):=l_4 HB9.out (Nat.le_succ _) (by have:=HG.out;omega) _
 have HTX:Hid (TBox (putV w9 (w.heap.size+1) ⟨s,st.left+tt,b,l,ld⟩) g (some ⟨bm,0,none⟩) d A n c ⟨si.place,l,ld⟩):=
  Only.blk (g:=w.heap.size+1) ((((((((Only.refl _ _).set _ _).set _ _).set _ _).set _ _).set _ _).set _ _)) HT9.out (by have:=HG.out;omega)
 have HRS:=Lib.hid (b_8 HR9.out ⟨s,st.left+tt,b,l,ld⟩).cells;have hcs:=a_c (w.heap.size+1);have hfs:=a_d;have hff:=Blk.free HR9.out;obtain⟨x0,x1,x2,x3,x4,x5⟩:=HR9.out.cells;obtain⟨v0,v1,v2,v3,v4,v5⟩:=HV9.out.cells;go_wp2_with fail
 refine bodyPost_ret (v:=.tuple #[visV ⟨s,st.left+tt,b,l,ld⟩,.int .i64 0]) ?_ rfl (q_h HD.out HTX.out HBX.out);obtain⟨r0,r1,r2,r3,r4,r5⟩:=HRS.out;simp[results,Tryz.results219,go_sem,r0,r1,r2,r3,r4,r5]
end Route
namespace Route
theorem gdriver_v(base:Nat)(pv:Value)(m:Option Mp)(d:Drv)(v:Int)(w:World)(h:MapP w 92 base pv m)(hv:drvE m d=v):
 Calls Tryz.prog 52 #[pv,drvV d] w (a_y w (.int .i64 v)):=by rw[← hv];exact d_5 base pv m d w h
theorem gknown_v(base:Nat)(pv:Value)(m:Option Mp)(A:Option Addr)(n c:Nat)(os:List FleetMath.Ord)(b:Bool)(w:World)(hnc:n≤c)(h:MapP w 92 base pv m)(hl:Ords w w.heap.size A n os)(hb:a_V m os=b):
 Calls Tryz.prog 164 #[pv,.slice A n c] w (a_y w (.bool b)):=by rw[← hb];exact h_f base pv m A n c os w hnc h hl
theorem l_s{m:Mp}{d:Drv}{os:List FleetMath.Ord}{seen:List Stp}{st:St}{s:Stp}{x:Int}(h:FleetMath.step m d os seen st s=.error x):x≠0:=by
 unfold FleetMath.step at h;split at h
 ·injection h with h;omega
 ·split at h
  ·injection h with h;omega
  ·split at h
   ·injection h with h;omega
   ·split at h
    ·injection h with h;omega
    ·split at h
     ·injection h with h;omega
     ·cases h
theorem _root_.Go.Proofs.YtkpnmpjnpcjohaaGreat.FleetMath.Upto.made{m:Mp}{d:Drv}{os:List FleetMath.Ord}{stops:List Stp}{k:Nat}{st st':St}{vs:List Vis}{s:Stp}{v:Vis}(h:Upto m d os stops k st vs)(hs:stops[k]?=some s)(hk:∀o∈os,OrdOk m o)(hst:FleetMath.step m d os (stops.take k) st s=.ok (st',v)):Upto m d os stops (k+1) st' (vs++[v]):=by
 obtain⟨o,hm⟩:=step_ok.1 hst;have:=h.next hs (hk o (c_d hm.find).1) hm.find hm.new hm.first hm.load hm.serve;rw[← hm.st',←hm.arrive,←hm.vload]at this
 have e:v=⟨s,v.arrive,v.start,v.leave,v.load⟩:=by
  have:=hm.stop;cases v;subst this;rfl
 rw[e];exact this
theorem _root_.Go.Proofs.YtkpnmpjnpcjohaaGreat.Mem.OwnK.not_blk{w:World}{base k n g:Nat}{e t:TypeId}{v:Value}{vs xs:List Value}(h:OwnK w base e k v n vs)(hb:Blk w g t xs)(hne:t≠e):v.ownBlock≠some g:=by
 intro hv;rcases h.blk with⟨rfl,_⟩|⟨g',cap,cur,rfl,_,hB,_⟩
 ·cases hv
 ·have:g'=g:=by simpa[Value.ownBlock]using hv
  subst this;unfold Blk at hb hB;rw[hb]at hB;injection hB with hB;injection hB with _ hB;exact hne hB
theorem But.own{w u:World}{base k n g:Nat}{e t:TypeId}{v:Value}{vs xs:List Value}(h:But g w u)(ho:OwnK w base e k v n vs)(hb:Blk w g t xs)(hne:t≠e):OwnK u base e k v n vs:=by
 have hn:=ho.not_blk hb hne;obtain⟨⟨hl,ho⟩,hm⟩:=ho;refine⟨⟨hl,?_⟩,hm⟩;rcases ho with ho|⟨g',cap,cur,rfl,hg',hh,hr⟩
 ·exact .inl ho
 ·have hlt:g'<w.heap.size:=by
   rcases Nat.lt_or_ge g' w.heap.size with hlt|hge
   ·exact hlt
   ·rw[Array.getElem?_eq_none hge]at hh;cases hh
  refine .inr ⟨g',cap,cur,rfl,hg',(h.other g' hlt fun e=>hn ?_).trans hh,hr⟩;rw[e];rfl
structure PS(w:World)(gt:Nat)(q:Option Addr)(d:Drv)(A:Option Addr)(n c:Nat)(st:St)(u:World):Prop where
 old:Below w.heap.size w u
 flt:Blk u (w.heap.size+1) 108 [.int .i64 0,.int .i64 0]
 tour:TBox u gt q d A n c st
 far:w.heap.size+2≤gt
theorem d_G{w u:World}(ho:Below w.heap.size w u)(hf:Blk u (w.heap.size+1) 108 [.int .i64 0,.int .i64 0])(a b:Int):
 (u.cell? ⟨w.heap.size+1,0,none⟩=some (.int .i64 0)∧u.frozen? ⟨w.heap.size+1,0,none⟩=false)∧
 ((u.setCell ⟨w.heap.size+1,0,none⟩ (.int .i64 a)).cell? ⟨w.heap.size+1,1,none⟩=some (.int .i64 0)∧(u.setCell ⟨w.heap.size+1,0,none⟩ (.int .i64 a)).frozen? ⟨w.heap.size+1,1,none⟩=false)∧
 (((u.setCell ⟨w.heap.size+1,0,none⟩ (.int .i64 a)).setCell ⟨w.heap.size+1,1,none⟩ (.int .i64 b)).cell? ⟨w.heap.size+1,0,none⟩=some (.int .i64 a)∧((u.setCell ⟨w.heap.size+1,0,none⟩ (.int .i64 a)).setCell ⟨w.heap.size+1,1,none⟩ (.int .i64 b)).cell? ⟨w.heap.size+1,1,none⟩=some (.int .i64 b))∧
 Below w.heap.size w ((u.setCell ⟨w.heap.size+1,0,none⟩ (.int .i64 a)).setCell ⟨w.heap.size+1,1,none⟩ (.int .i64 b)):=by
 have f1:=hf.put 0 (.int .i64 a);have f2:=f1.put 1 (.int .i64 b);exact⟨⟨hf.cell rfl,hf.free 0⟩,⟨f1.cell rfl,f1.free 1⟩,⟨f2.cell rfl,f2.cell rfl⟩,(ho.setCell (Nat.le_succ _) _).setCell (Nat.le_succ _) _⟩
structure PF(w:World)(d:Drv)(u:World):Prop where
 old:Below w.heap.size w u
 drv:DBox u w.heap.size d
 flt:Blk u (w.heap.size+1) 108 [.int .i64 0,.int .i64 0]
theorem PF.next{w u u':World}{d:Drv}(h:PF w d u)(hb:Below u.heap.size u u'):PF w d u':=⟨h.old.trans (hb.mono h.old.size),h.drv.below hb,h.flt.below hb h.flt.lt⟩
theorem PF.alloc{w u:World}{d:Drv}(h:PF w d u)(o:Obj):PF w d (u.alloc o):=h.next ((Below.refl _ _).alloc (Nat.le_refl _) _)
section
variable {w u u' : World} {gt : Nat} {q : Option Addr} {d : Drv} {A : Option Addr} {n c : Nat} {st st' : St}
theorem PS.next(h:PS w gt q d A n c st u)(hb:Below u.heap.size u u'):PS w gt q d A n c st u':=⟨h.old.trans (hb.mono h.old.size),h.flt.below hb h.flt.lt,h.tour.below hb,h.far⟩
theorem PS.alloc(h:PS w gt q d A n c st u)(o:Obj):PS w gt q d A n c st (u.alloc o):=h.next ((Below.refl _ _).alloc (Nat.le_refl _) _)
theorem PS.turn(h:PS w gt q d A n c st u)(ht:TBox u' gt q d A n c st')(hb:But gt u u'):PS w gt q d A n c st' u':=by
 have h1:=h.far;have h2:=h.flt.lt;exact⟨h.old.trans (hb.below.mono (by omega)),(hb.other _ h2 (by omega)).trans h.flt,ht,h.far⟩
theorem PS.grow{v:Value}{k:Nat}{vs:List Value}(h:PS w gt q d A n c st u)(ho:OwnK u (w.heap.size+2) 245 6 v k vs)(hg:u.grownBy u' v.ownBlock):PS w gt q d A n c st u':=by
 have h1:=h.flt.lt;have h2:=Blk.lt h.tour;have hm:Below (w.heap.size+2) u u':=OwnK.below (Below.refl (w.heap.size+2) u) ho hg (by omega) (Nat.le_refl _);exact⟨ho.below h.old hg h.old.size (by omega),(hm.block _ (by omega)).trans h.flt,(hg.block gt h2 (fun e=>ho.not_blk h.tour (by decide) e.symm)).trans h.tour,h.far⟩
theorem PS.own{v:Value}{k:Nat}{vs:List Value}(h:OwnK u (w.heap.size+2) 245 6 v k vs)(a b:Value):
 OwnK ((u.setCell ⟨w.heap.size+1,0,none⟩ a).setCell ⟨w.heap.size+1,1,none⟩ b) w.heap.size 245 6 v k vs:=by
 have:OwnK ((u.setCell ⟨w.heap.size+1,0,none⟩ a).setCell ⟨w.heap.size+1,1,none⟩ b) (w.heap.size+2) 245 6 v k vs:=
  h.same fun g hg _=>(Below.heap_setCell _ _ _ g (by show g≠w.heap.size+1;omega)).trans (Below.heap_setCell _ _ _ g (by show g≠w.heap.size+1;omega))
 exact this.lower (by omega)
end
def resV:Except Int (St×Vis)→Vis
 | .error _=>vis0
 | .ok p=>p.2
def resE:Except Int (St×Vis)→Int
 | .error x=>x
 | .ok _=>0
def StopAt(W:World)(g:Nat)(q:Option Addr)(d:Drv)(A:Option Addr)(n c:Nat)(r:Except Int (St×Vis))(u:World):Prop:=
 match r with
 | .error _=>Below W.heap.size W u
 | .ok p=>TBox u g q d A n c p.1∧But g W u
section
variable {W u u' : World} {g : Nat} {q : Option Addr} {d : Drv} {A : Option Addr} {n c : Nat} {r : Except Int (St × Vis)}
theorem StopAt.alloc(h:StopAt W g q d A n c r u)(hg:g<W.heap.size)(o:Obj):StopAt W g q d A n c r (u.alloc o):=by
 cases r with
 |error x=>exact Below.alloc h (Below.size h) o
 |ok p=>exact⟨h.1.below ((Below.refl _ _).alloc (Nat.le_refl _) _),h.2.next ((Below.refl _ _).alloc (Nat.le_refl _) _) (Nat.le_trans (Nat.le_of_lt hg) h.2.size)⟩
theorem StopAt.put(h:StopAt W g q d A n c r u)(hg:g<W.heap.size)(x:Vis):StopAt W g q d A n c r (putV u W.heap.size x):=by
 cases r with
 |error x=>exact c_3 h (Nat.le_refl _) _
 |ok p=>exact⟨Only.blk (g:=W.heap.size) (((((((Only.refl _ _).set _ _).set _ _).set _ _).set _ _).set _ _).set _ _) h.1 (Nat.ne_of_lt hg),l_4 h.2 (Nat.le_refl _) (Nat.le_of_lt hg) _⟩
end
theorem r_X(base bm mn:Nat)(ml:List Int)(d:Drv)(A:Option Addr)(n c:Nat)(os:List FleetMath.Ord)(st:St)(g:Nat)(s:Stp)(A':Option Addr)(k c':Nat)(seen:List Stp)(r:Except Int (St×Vis))(W u:World)(hb:Below W.heap.size W u)
 (ht:TBox W g (some ⟨bm,0,none⟩) d A n c st) (hm:MapAt W 92 base bm mn ml) (hmn:mn≤12) (hmap:IsMap mn ml) (ho:Ords W W.heap.size A n os) (hs:Stps W W.heap.size A' k seen) (hok:∀o∈os,OrdOk ⟨mn,ml⟩ o)
 (lf1:0≤st.left) (lf2:st.left≤2000000) (ll1:-1000000≤st.load) (ll2:st.load≤1000000) (hr:FleetMath.step ⟨mn,ml⟩ d os seen st s=r):
 Calls Tryz.prog 219 #[.pointer (some ⟨g,0,none⟩),stpV s,.slice A' k c'] u fun e w'=>e=.returned (.tuple #[visV (resV r),.int .i64 (resE r)])∧StopAt W g (some ⟨bm,0,none⟩) d A n c r w'∧But g u w':=by
 have hgt:=Blk.lt ht;have hgu:=Nat.lt_of_lt_of_le hgt hb.size;refine(q_j base bm mn ml d A n c os st g s A' k c' seen u (ht.below hb) (hm.keep hb (Nat.le_refl _)) hmn hmap (Recs.more (Recs.keep ho hb) hb.size) (Recs.more (Recs.keep hs hb) hb.size) hok lf1 lf2 ll1 ll2).mono ?_;rw[hr];intro e w' h;cases r with
 |error x=>exact⟨h.1,hb.trans (h.2.mono hb.size),But.of h.2 (Nat.le_of_lt hgu)⟩
 |ok p=>
  obtain⟨h1,h2,h3⟩:=h;exact⟨h1,⟨h2,(hb.mono (Nat.le_of_lt hgt)).trans h3.below,Nat.le_trans hb.size h3.size,fun q hq hn=>(h3.other q (Nat.lt_of_lt_of_le hq hb.size) hn).trans (hb.block q hq)⟩,h3⟩
theorem n_P{W w':World}{g:Nat}(hb:But g (W.alloc (.cells #[.int .i64 0,.bool false,.int .i64 0,.int .i64 0,.int .i64 0,.int .i64 0] 245)).drew w')(hg:g<W.heap.size):VBox w' W.heap.size vis0:=by
 have h:VBox (W.alloc (.cells #[.int .i64 0,.bool false,.int .i64 0,.int .i64 0,.int .i64 0,.int .i64 0] 245)).drew W.heap.size vis0:=Blk.new W _ _;exact(hb.other _ (Blk.lt h) (Nat.ne_of_gt hg)).trans h
theorem r_Y(n:Nat)(hn:n≤80):∃ca:Array Value,(∀ u:World,(Instr.makeSlice 164 (.int .i64 0) (.int .i64 (n:Int))).run Tryz.prog u=.ok (.slice (some ⟨u.heap.size,0,none⟩) 0 n) (u.alloc (.cells ca 245)))∧∀(u:World) (base:Nat),base≤u.heap.size→OwnK (u.alloc (.cells ca 245)) base 245 6 (.slice (some ⟨u.heap.size,0,none⟩) 0 n) 0 []:=by
 obtain⟨i0,hi,hz0,hz1,hz2⟩:=info_parts q_s;refine⟨_,fun u=>?_,fun u base hb=>⟨World.ownsRow_made u _ n hb (by unfold maxLen;omega) (size_madeCells (Value.agg #[.int .i64 0,.bool false,.int .i64 0,.int .i64 0,.int .i64 0,.int .i64 0]).cells (n*6)),Nat.zero_le _⟩⟩;have h:=run_make (P:=Tryz.prog) u 164 245 i0 _ Tryz.underlying164 hi hz0 .i64 .i64 0 (n:Int) (Int.le_refl _) (by omega) (by rw[hz2];omega) (by omega);rw[hz1]at h;simpa using h
theorem h_D(base:Nat)(pv:Value)(m:Option Mp)(d:Drv)(A:Option Addr)(n c:Nat)(os:List FleetMath.Ord)(A':Option Addr)(n' c':Nat)(stops:List Stp)(w:World)(h:MapP w 92 base pv m)(ho:Ords w w.heap.size A n os)(hs:Stps w w.heap.size A' n' stops)(hcc:n'≤c')(hnc:n≤c):
 Calls Tryz.prog 166 #[pv,drvV d,.slice A n c,.slice A' n' c'] w (h_5 w (a_J m d os stops)):=by
 have HM:=Lib.hid h;have HOS:=Lib.hid ho;have HST:=Lib.hid hs;have HLS:=Lib.hid hs.length;have hnm:=Recs.le ho;have hnm':=Recs.le hs
 obtain⟨q,hq⟩:∃q,pv=.pointer q:=by
  rcases h with⟨rfl,_⟩|⟨b,_,_,rfl,_⟩
  ·exact⟨_,rfl⟩
  ·exact⟨_,rfl⟩
 subst hq;clear h ho hs;obtain⟨v1,hv1⟩:∃v,drvE m d=v:=⟨_,rfl⟩;obtain⟨b2,hb2⟩:∃v,a_V m os=v:=⟨_,rfl⟩;have V1:=Lib.hid hv1;have V2:=Lib.hid hb2;have HBAD:Hid (v1≠0∨b2=false∨80<n'→a_J m d os stops=([],0,1)):=fun hx=>e_w (by rw[hv1,hb2,HLS.out];exact hx);clear hv1 hb2
 have F0:Hid (PF w d (DX w d)):=by
  have b1:Below w.heap.size w (DX w d):=((Below.refl _ _).alloc (Nat.le_refl _) _).alloc (by simp) _;have f:=Blk.new (w.alloc (.cells #[.int .i64 d.id,.int .i64 d.room,.int .i64 d.home,.int .i64 d.win.fr,.int .i64 d.win.to,.bool d.retired] 33)) 108 [.int .i64 0,.int .i64 0];rw[World.size_alloc]at f;exact⟨b1,DBox.below (d:=d) (Blk.new w _ _) ((Below.refl _ _).alloc (Nat.le_refl _) _),f⟩
 by_cases h80:80<n'
 ·have HD:=Lib.hid (HBAD.out (.inr (.inr h80)))
  go_enter Tryz.func166,Tryz.ntmps166;go_wp2_with fail
  refine bodyPost_ret (v:=.tuple #[.slice none 0 0,faultV 0 1]) ?_ rfl (c_w HD.out (((Below.refl _ _).alloc (Nat.le_refl _) _).alloc (by simp) _));simp[results,Tryz.results166,go_sem]
 have hn80:n'≤80:=by omega
 clear h80;go_enter Tryz.func166,Tryz.ntmps166;go_wp2_with fail
 refine(gdriver_v base _ m d v1 _ (by exact HM.out.keep F0.out.old) V1.out).mono ?_;rintro e w1 ⟨rfl,hb⟩;have F1:=Lib.hid (F0.out.next hb);clear hb F0;by_cases h1:v1=0
 case neg=>
  obtain⟨n1,n2⟩:(v1==0)=false∧(v1 != 0)=true:=by simp[h1]
  have HD:=Lib.hid (HBAD.out (.inl h1));obtain⟨⟨p0,f0⟩,⟨p1,f1⟩,⟨r0,r1⟩,hbp⟩:=d_G F1.out.old F1.out.flt 0 1;have HBP:=Lib.hid hbp;clear hbp h1;go_wp2_with fail
  refine bodyPost_ret (v:=.tuple #[.slice none 0 0,faultV 0 1]) ?_ rfl (c_w HD.out HBP.out);simp[results,Tryz.results166,go_sem,r0,r1]
 subst h1;go_wp2_with fail
 refine(gknown_v base _ m A n c os b2 _ hnc (by exact HM.out.keep F1.out.old) (by exact Recs.more (Recs.keep HOS.out F1.out.old) F1.out.old.size) V2.out).mono ?_;rintro e w2 ⟨rfl,hb⟩;have F2:=Lib.hid (F1.out.next hb);clear hb F1;cases b2 with
 |false=>
  have HD:=Lib.hid (HBAD.out (.inr (.inl rfl)));obtain⟨⟨p0,f0⟩,⟨p1,f1⟩,⟨r0,r1⟩,hbp⟩:=d_G F2.out.old F2.out.flt 0 1;have HBP:=Lib.hid hbp;clear hbp;go_wp2_with fail
  refine bodyPost_ret (v:=.tuple #[.slice none 0 0,faultV 0 1]) ?_ rfl (c_w HD.out HBP.out);simp[results,Tryz.results166,go_sem,r0,r1]
 |true=>
 clear HBAD;obtain⟨m',hm',hdk⟩:=drvE_ok.1 V1.out;subst hm';obtain⟨mn,ml⟩:=m';have HOK:=Lib.hid (e_v V2.out);have HU0:Hid (Upto ⟨mn,ml⟩ d os stops 0 (st0 d) []):=Upto.start hdk;clear hdk;obtain⟨bm,hbm⟩:=h_6 HM.out;subst hbm;obtain⟨ca,hmk,hown⟩:=r_Y n' hn80;have HOWN:=Lib.hid (hown w2 (w.heap.size+2) (by have:=F2.out.flt.lt;omega));have F3:=Lib.hid (F2.out.alloc (.cells ca 245));obtain⟨d0,d1,d2,d3,d4,d5⟩:=F3.out.drv.cells;clear hown;go_wp2_with fail
 obtain⟨gt,hgt⟩:∃x,w2.heap.size+1=x:=⟨_,rfl⟩;obtain⟨w3,hw3⟩:∃u,(w2.alloc (.cells ca 245)).alloc (.cells #[.pointer (some ⟨bm,0,none⟩),.int .i64 d.id,.int .i64 d.room,.int .i64 d.home,.int .i64 d.win.fr,.int .i64 d.win.to,.bool d.retired,.slice A n c,.int .i64 d.home,.int .i64 d.win.fr,.int .i64 0] 281)=u:=⟨_,rfl⟩
 have P0:Hid (PS w gt (some ⟨bm,0,none⟩) d A n c (st0 d) w3):=by
  have f:=Blk.new (w2.alloc (.cells ca 245)) 281 [.pointer (some ⟨bm,0,none⟩),.int .i64 d.id,.int .i64 d.room,.int .i64 d.home,.int .i64 d.win.fr,.int .i64 d.win.to,.bool d.retired,.slice A n c,.int .i64 d.home,.int .i64 d.win.fr,.int .i64 0];rw[World.size_alloc,hgt]at f;have F4:=F3.out.alloc (.cells #[.pointer (some ⟨bm,0,none⟩),.int .i64 d.id,.int .i64 d.room,.int .i64 d.home,.int .i64 d.win.fr,.int .i64 d.win.to,.bool d.retired,.slice A n c,.int .i64 d.home,.int .i64 d.win.fr,.int .i64 0] 281);have hlt:=F2.out.flt.lt;rw[hw3]at F4;rw[← hw3];rw[← hw3]at F4;exact⟨F4.old,F4.flt,f,by omega⟩
 have HO0:Hid (OwnK w3 (w.heap.size+2) 245 6 (.slice (some ⟨w2.heap.size,0,none⟩) 0 n') 0 []):=by
  rw[← hw3];exact HOWN.out.alloc _
 rw[hw3,hgt];clear hw3 hmk F3 F2 HOWN d0 d1 d2 d3 d4 d5 hgt;go_loopw [10,45] (fun vv iv wr=>∃(k:Nat) (st:St) (vs:List Vis),k≤n'∧iv=.int .i64 k∧Hid (PS w gt (some ⟨bm,0,none⟩) d A n c st wr)∧Hid (OwnK wr (w.heap.size+2) 245 6 vv k (c_p vs))∧Hid (Upto ⟨mn,ml⟩ d os stops k st vs)) (fun _ iv _=>n'-(intOf iv).toNat)
 case atStart=>exact⟨0,st0 d,[],Nat.zero_le _,rfl,P0,HO0,HU0⟩
 case round=>
  clear P0 HO0 HU0;obtain⟨k,st,vs,hk,rfl,P1,HO,HU⟩:=hrel;by_cases hlt:k<n'
  case neg=>
   have e:k=n':=by omega
   subst e;have HD:=Lib.hid (by have:=HU.out;rw[← HLS.out]at this;exact this.done V1.out V2.out (by rw[HLS.out];exact hn80));have l10:=P1.out.tour.cells.2.2.2.2.2.2.2.2.2.2;by_cases hl:0<st.load
   ·have HD2:Hid (a_J (some ⟨mn,ml⟩) d os stops=([],k,18)):=by
     have:=HD.out;rw[if_pos hl,HLS.out]at this;exact this
    obtain⟨⟨p0,f0⟩,⟨p1,f1⟩,⟨r0,r1⟩,hbp⟩:=d_G P1.out.old P1.out.flt k 18;have HBP:=Lib.hid hbp;clear hbp HD;go_wp2_with fail
    refine bodyPost_ret (v:=.tuple #[.slice none 0 0,faultV k 18]) ?_ rfl (c_w HD2.out HBP.out);simp[results,Tryz.results166,go_sem,r0,r1]
   ·have HD2:Hid (a_J (some ⟨mn,ml⟩) d os stops=(vs,0,0)):=by
     have:=HD.out;rw[if_neg hl]at this;exact this
    obtain⟨⟨p0,f0⟩,⟨p1,f1⟩,⟨r0,r1⟩,hbp⟩:=d_G P1.out.old P1.out.flt 0 0
    have HF:Hid (h_5 w (a_J (some ⟨mn,ml⟩) d os stops) (.returned (.tuple #[u10,faultV 0 0])) ((wr.setCell ⟨w.heap.size+1,0,none⟩ (.int .i64 0)).setCell ⟨w.heap.size+1,1,none⟩ (.int .i64 0))):=by
     show h_5 _ _ _ _;rw[HD2.out];refine⟨hbp,u10,rfl,?_⟩;have:=PS.own HO.out (.int .i64 0) (.int .i64 0);simp only[HU.out.len];exact this
    clear hbp HD HD2;go_wp2_with fail
    refine bodyPost_ret (v:=.tuple #[u10,faultV 0 0]) ?_ rfl HF.out;simp[results,Tryz.results166,go_sem,r0,r1]
  obtain⟨b,off,s,rfl,hbw,hs,_,c0,c1⟩:=Stps.at_ (Recs.keep HST.out P1.out.old) hlt;have HS:=Lib.hid hs;clear hs;obtain⟨r,hr⟩:∃r,FleetMath.step ⟨mn,ml⟩ d os (stops.take k) st s=r:=⟨_,rfl⟩;have HR:=Lib.hid hr;clear hr;have HG:=Lib.hid (Blk.lt P1.out.tour);have hk0:(0:Int)≤(k:Int):=by omega
  have hkc:(k:Int)≤(c':Int):=by omega
  go_upto_region 8 with fail
  go_cut [13,14] (fun bv ev wx=>∃gb,bv=.pointer (some ⟨gb,0,none⟩)∧ev=.int .i64 (resE r)∧Hid (StopAt wr gt (some ⟨bm,0,none⟩) d A n c r wx)∧Hid (VBox wx gb (resV r)))
  case first=>
   have HCA:Hid (∀ ob,(wr.alloc ob).cell? ⟨b,off+k*2,none⟩=some (.int .i64 s.ord)∧(wr.alloc ob).cell? ⟨b,off+k*2+1,none⟩=some (.bool s.drop)):=fun ob=>by
    have hb2:Below w.heap.size w (wr.alloc ob):=P1.out.old.alloc P1.out.old.size _;obtain⟨b',off',s',e1,_,hs',_,h0,h1⟩:=Stps.at_ (Recs.keep HST.out hb2) hlt;injection e1 with e1;injection e1 with e1 e2;subst e1;subst e2;have:=HS.out;rw[this]at hs';injection hs' with hs';subst hs';exact⟨h0,h1⟩
   have k3:=fun o=>(HCA.out o).1;have k4:=fun o=>(HCA.out o).2;have HL:=Lib.hid (HU.out.load)
   have HCALL:Hid (∀ u,Below wr.heap.size wr u→Calls Tryz.prog 219 #[.pointer (some ⟨gt,0,none⟩),stpV s,.slice (some ⟨b,off,none⟩) k c'] u fun e w'=>e=.returned (.tuple #[visV (resV r),.int .i64 (resE r)])∧StopAt wr gt (some ⟨bm,0,none⟩) d A n c r w'∧But gt u w'):=fun u hu=>
    r_X base bm mn ml d A n c os st gt s (some ⟨b,off,none⟩) k c' (stops.take k) r wr u hu P1.out.tour ((f_Y HM.out).1.keep P1.out.old (Nat.le_refl _)) (f_Y HM.out).2.1 (f_Y HM.out).2.2 (Recs.more (Recs.keep HOS.out P1.out.old) P1.out.old.size) (c_W (Recs.more (Recs.keep HST.out P1.out.old) P1.out.old.size) hk) HOK.out HU.out.left.1 HU.out.left.2 (by have:=HL.out.1;omega) (by have:=HL.out.2;omega) HR.out
   go_region_with (go_at_call 219;(refine(HCALL.out _ (by first|exact(Below.refl _ _).drew|exact((Below.refl _ _).alloc (Nat.le_refl _) _).drew)).mono ?_);rintro e w' ⟨rfl,hst,hbt⟩;(try (have hbox:=Lib.hid (n_P hbt HG.out);have hcs:=a_c wr.heap.size;have hfs:=a_d;have hff:=Blk.free hbox.out;obtain⟨x0,x1,x2,x3,x4,x5⟩:=hbox.out.cells)))
   all_goals
    go_wp2_with fail
    go_meet
    first
     |(have hbox':=hbox.out;exact⟨_,rfl,rfl,hst.put HG.out _,b_8 hbox' _⟩)
     |exact⟨_,rfl,rfl,hst.alloc HG.out _,Blk.new w' _ _⟩
  case rest=>
  obtain⟨gb,rfl,rfl,HA,HVB⟩:=hcut;obtain⟨w5,rfl⟩:∃u,u=wc:=⟨_,rfl⟩;clear c0 c1;cases r with
  |error x=>
   have HA':Hid (Below wr.heap.size wr w5):=HA.out;have P5:=Lib.hid (P1.out.next HA'.out);have hx:=l_s HR.out;obtain⟨n1,n2⟩:(x==0)=false∧(x != 0)=true:=by simp[hx]
   have HD:=Lib.hid (HU.out.fault HS.out HR.out V1.out V2.out (by rw[HLS.out];exact hn80));obtain⟨⟨p0,f0⟩,⟨p1,f1⟩,⟨r0,r1⟩,hbp⟩:=d_G P5.out.old P5.out.flt k x;have HBP:=Lib.hid hbp;clear hbp hx HA HVB;simp only[resE];go_wp2_with fail
   refine bodyPost_ret (v:=.tuple #[.slice none 0 0,faultV k x]) ?_ rfl (c_w HD.out HBP.out);simp[results,Tryz.results166,go_sem,r0,r1]
  |ok p=>
  obtain⟨st',v⟩:=p;have HA':Hid (TBox w5 gt (some ⟨bm,0,none⟩) d A n c st'∧But gt wr w5):=HA.out;have P5:=Lib.hid (P1.out.turn HA'.out.1 HA'.out.2);have HO5:=Lib.hid (HA'.out.2.own HO.out P1.out.tour (by decide));have HV5:Hid (VBox w5 gb v):=HVB.out;have HUN:=Lib.hid (HU.out.made HS.out HOK.out HR.out);clear HA HA' HVB P1 HO HG HR;simp only[resE];obtain⟨v0,v1,v2,v3,v4,v5⟩:=HV5.out.cells;have P6:=Lib.hid (P5.out.alloc (.cells #[.int .i64 v.stop.ord,.bool v.stop.drop,.int .i64 v.arrive,.int .i64 v.start,.int .i64 v.leave,.int .i64 v.load] 245));have HO6:=Lib.hid (HO5.out.alloc (.cells #[.int .i64 v.stop.ord,.bool v.stop.drop,.int .i64 v.arrive,.int .i64 v.start,.int .i64 v.leave,.int .i64 v.load] 245));have HV6:Hid (VBox (w5.alloc (.cells #[.int .i64 v.stop.ord,.bool v.stop.drop,.int .i64 v.arrive,.int .i64 v.start,.int .i64 v.leave,.int .i64 v.load] 245)) w5.heap.size v):=Blk.new w5 _ _
  have hone:∀u∈[Value.int .i64 v.stop.ord,.bool v.stop.drop,.int .i64 v.arrive,.int .i64 v.start,.int .i64 v.leave,.int .i64 v.load],u.oneCell'=true:=by
   intro u hu;simp only[List.mem_cons,List.not_mem_nil,or_false]at hu;rcases hu with rfl|rfl|rfl|rfl|rfl|rfl<;>rfl
  have HONE:=Lib.hid hone;have HSZ:Hid (w.heap.size+2≤(w5.alloc (.cells #[.int .i64 v.stop.ord,.bool v.stop.drop,.int .i64 v.arrive,.int .i64 v.start,.int .i64 v.leave,.int .i64 v.load] 245)).heap.size):=by have:=P6.out.flt.lt;show _≤_;omega
  clear hone P5 HO5;go_wp2_with (at_builtin;refine f_4 (o:=⟨some 67,_,_,_,_,_⟩) rfl (.tmp 64) (.tmp 66) Tryz.underlying164 q_s rfl (by decide) rfl HO6.out rfl HV6.out rfl rfl HONE.out (by unfold maxLen;omega) (by omega) P6.out.old P6.out.old.size HSZ.out (by omega) ?_;intro vB wB HOC HBC HGC;have P7:=Lib.hid (P6.out.grow HO6.out HGC.out))
  go_roundw
  case rel=>exact⟨k+1,st',vs++[v],by omega,by go_num,P7,(by show OwnK _ _ _ _ _ _ _;rw[o_S];exact HOC.out),HUN⟩
  case measure=>simp[intOf];omega
end Route
end Go.Proofs.YtkpnmpjnpcjohaaGreat
