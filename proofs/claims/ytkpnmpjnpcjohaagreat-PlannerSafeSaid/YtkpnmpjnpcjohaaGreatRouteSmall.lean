import Derived.Test.YtkpnmpjnpcjohaaGreatJoined12
set_option maxHeartbeats 4000000
set_option maxRecDepth 100000
namespace Go.Proofs.YtkpnmpjnpcjohaaGreat
open ChangeShapes WideShapes ChangeAt RowKit Mem GeoMath FleetMath Rec Geo Span Deal
namespace Route
def f_n:Option FleetMath.Ord→Value
 |none=>.tuple #[.agg #[.int .i64 0,.int .i64 0,.int .i64 0,.int .i64 0,.int .i64 0,.int .i64 0,.int .i64 0,.int .i64 0,.int .i64 0,.int .i64 0],.bool false]
 |some o=>.tuple #[ordV o,.bool true]
theorem i_s{w w':World}{v v':Value}(h:v=v')(hb:Below w.heap.size w w'):a_y w v' (.returned v) w':=⟨by rw[h],hb⟩
theorem a_c(g:Nat):∀(u:World) (i j:Nat) (v:Value),i≠j→(u.setCell ⟨g,i,none⟩ v).cell? ⟨g,j,none⟩=u.cell? ⟨g,j,none⟩:=fun u i j v h=>World.cell?_setCell_other u _ _ v fun e=>h (by injection e)
theorem a_d:∀(u:World) (a b:Addr) (v:Value),(u.setCell a v).frozen? b=u.frozen? b:=fun u a b v=>by simp
theorem e_2{u:World}{g:Nat}{t:TypeId}(h:Blk u g t [.int .i64 0,.int .i64 0,.int .i64 0,.int .i64 0,.int .i64 0,.int .i64 0,.int .i64 0,.int .i64 0,.int .i64 0,.int .i64 0]):
 u.cell? ⟨g,0,none⟩=some (.int .i64 0)∧u.cell? ⟨g,1,none⟩=some (.int .i64 0)∧u.cell? ⟨g,2,none⟩=some (.int .i64 0)∧u.cell? ⟨g,3,none⟩=some (.int .i64 0)∧u.cell? ⟨g,4,none⟩=some (.int .i64 0)∧u.cell? ⟨g,5,none⟩=some (.int .i64 0)∧u.cell? ⟨g,6,none⟩=some (.int .i64 0)∧u.cell? ⟨g,7,none⟩=some (.int .i64 0)∧u.cell? ⟨g,8,none⟩=some (.int .i64 0)∧u.cell? ⟨g,9,none⟩=some (.int .i64 0):=
 ⟨h.cell rfl,h.cell rfl,h.cell rfl,h.cell rfl,h.cell rfl,h.cell rfl,h.cell rfl,h.cell rfl,h.cell rfl,h.cell rfl⟩
abbrev putO(u:World)(g:Nat)(o:FleetMath.Ord):World:=((((((((((u.setCell ⟨g,0,none⟩ (.int .i64 o.id)).setCell ⟨g,1,none⟩ (.int .i64 o.size)).setCell ⟨g,2,none⟩ (.int .i64 o.pick.place)).setCell ⟨g,3,none⟩ (.int .i64 o.pick.win.fr)).setCell ⟨g,4,none⟩ (.int .i64 o.pick.win.to)).setCell ⟨g,5,none⟩ (.int .i64 o.pick.serv)).setCell ⟨g,6,none⟩ (.int .i64 o.drop.place)).setCell ⟨g,7,none⟩ (.int .i64 o.drop.win.fr)).setCell ⟨g,8,none⟩ (.int .i64 o.drop.win.to)).setCell ⟨g,9,none⟩ (.int .i64 o.drop.serv))
theorem c_n{u:World}{g:Nat}{a0 a1 a2 a3 a4 a5 a6 a7 a8 a9:Value}(h:Blk u g 31 [a0,a1,a2,a3,a4,a5,a6,a7,a8,a9])(o:FleetMath.Ord):OBox (putO u g o) g o:=((((((((((h.put 0 (.int .i64 o.id)).put 1 (.int .i64 o.size)).put 2 (.int .i64 o.pick.place)).put 3 (.int .i64 o.pick.win.fr)).put 4 (.int .i64 o.pick.win.to)).put 5 (.int .i64 o.pick.serv)).put 6 (.int .i64 o.drop.place)).put 7 (.int .i64 o.drop.win.fr)).put 8 (.int .i64 o.drop.win.to)).put 9 (.int .i64 o.drop.serv))
theorem b_t{B:Nat}{w u:World}{g:Nat}(h:Below B w u)(hg:B≤g)(o:FleetMath.Ord):Below B w (putO u g o):=((((((((((h.setCell hg _).setCell hg _).setCell hg _).setCell hg _).setCell hg _).setCell hg _).setCell hg _).setCell hg _).setCell hg _).setCell hg _)
abbrev ord0:FleetMath.Ord:=⟨0,0,⟨0,⟨0,0⟩,0⟩,⟨0,⟨0,0⟩,0⟩⟩
theorem q_m(A:Option Addr)(n c:Nat)(os:List FleetMath.Ord)(id:Int)(w:World)(hl:Ords w w.heap.size A n os):
 Calls Tryz.prog 245 #[.slice A n c,.int .i64 id] w (a_y w (f_n (find os id))):=by
 have hm:=Recs.le hl;have HI:=Lib.hid hl;have HL:=Lib.hid hl.length;have HB0:Hid (Below w.heap.size w (w.alloc (.cells #[.int .i64 0,.int .i64 0,.int .i64 0,.int .i64 0,.int .i64 0,.int .i64 0,.int .i64 0,.int .i64 0,.int .i64 0,.int .i64 0] 31))):=(Below.refl _ _).alloc (Nat.le_refl _) _;have HX0:Hid (Blk (w.alloc (.cells #[.int .i64 0,.int .i64 0,.int .i64 0,.int .i64 0,.int .i64 0,.int .i64 0,.int .i64 0,.int .i64 0,.int .i64 0,.int .i64 0] 31)) w.heap.size 31 [.int .i64 0,.int .i64 0,.int .i64 0,.int .i64 0,.int .i64 0,.int .i64 0,.int .i64 0,.int .i64 0,.int .i64 0,.int .i64 0]):=Blk.new w _ _;clear hl;go_enter Tryz.func245,Tryz.ntmps245;go_wp2
 go_loopw [10] (fun i wr=>∃k:Nat,k≤n∧i=.int .i64 k∧Hid (Below w.heap.size w wr)∧Hid (Blk wr w.heap.size 31 [.int .i64 0,.int .i64 0,.int .i64 0,.int .i64 0,.int .i64 0,.int .i64 0,.int .i64 0,.int .i64 0,.int .i64 0,.int .i64 0])∧Hid (∀ t p,t<k→os[t]?=some p→p.id≠id)) (fun i _=>n-(intOf i).toNat)
 case atStart=>exact⟨0,Nat.zero_le _,rfl,HB0,HX0,fun t p ht=>absurd ht (by omega)⟩
 case round=>
  clear HB0 HX0;obtain⟨k,hk,rfl,HB,HX,HK⟩:=hrel;by_cases hlt:k<n
  ·obtain⟨b,off,o,rfl,hb,ho,_,c0,c1,c2,c3,c4,c5,c6,c7,c8,c9⟩:=Ords.at_ (Recs.keep HI.out HB.out) hlt
   have HO:=Lib.hid ho;clear ho;by_cases hid:o.id=id
   ·have HF:Hid (f_n (find os id)=.tuple #[ordV o,.bool true]):=by
     obtain⟨p,hp,_,hf⟩:=m_P (q_9 HK.out HO.out hid);show f_n _=_;rw[hf];have:=HO.out;rw[hp]at this;injection this with this;rw[this];rfl
    have e1:(o.id==id)=true:=by simpa using hid
    have HX1:Hid (Blk (wr.alloc (.cells #[.int .i64 o.id,.int .i64 o.size,.int .i64 o.pick.place,.int .i64 o.pick.win.fr,.int .i64 o.pick.win.to,.int .i64 o.pick.serv,.int .i64 o.drop.place,.int .i64 o.drop.win.fr,.int .i64 o.drop.win.to,.int .i64 o.drop.serv] 31)) w.heap.size 31 [.int .i64 0,.int .i64 0,.int .i64 0,.int .i64 0,.int .i64 0,.int .i64 0,.int .i64 0,.int .i64 0,.int .i64 0,.int .i64 0]):=HX.out.below ((Below.refl _ _).alloc (Nat.le_refl _) _) HX.out.lt;have hcs:=a_c w.heap.size;have hfs:=a_d;have hff:=HX1.out.free;obtain⟨x0,x1,x2,x3,x4,x5,x6,x7,x8,x9⟩:=e_2 HX1.out;have HR:=Lib.hid (c_n HX1.out o).cells;have HBR:=Lib.hid (b_t (HB.out.alloc HB.out.size (.cells #[.int .i64 o.id,.int .i64 o.size,.int .i64 o.pick.place,.int .i64 o.pick.win.fr,.int .i64 o.pick.win.to,.int .i64 o.pick.serv,.int .i64 o.drop.place,.int .i64 o.drop.win.fr,.int .i64 o.drop.win.to,.int .i64 o.drop.serv] 31)) (Nat.le_refl w.heap.size) o);clear hid HK;go_wp2
    refine bodyPost_ret (v:=.tuple #[ordV o,.bool true]) ?_ rfl (i_s HF.out.symm HBR.out);obtain⟨r0,r1,r2,r3,r4,r5,r6,r7,r8,r9⟩:=HR.out;simp[results,Tryz.results245,go_sem,r0,r1,r2,r3,r4,r5,r6,r7,r8,r9]
   ·have HK2:Hid (∀ t p,t<k+1→os[t]?=some p→p.id≠id):=fun t p' ht hp'=>by
     by_cases htj:t=k
     ·subst htj
      rw[HO.out]at hp';injection hp' with hp';rw[← hp'];exact hid
     ·exact HK.out t p' (by omega) hp'
    have e1:(o.id==id)=false:=by simpa using hid
    clear hid;go_wp2
    go_roundw
    case rel=>exact⟨k+1,by omega,by go_num,HB.out.alloc HB.out.size _,HX.out.below ((Below.refl _ _).alloc (Nat.le_refl _) _) HX.out.lt,HK2⟩
    case measure=>simp[intOf];omega
  ·have HF:Hid (f_n (find os id)=.tuple #[.agg #[.int .i64 0,.int .i64 0,.int .i64 0,.int .i64 0,.int .i64 0,.int .i64 0,.int .i64 0,.int .i64 0,.int .i64 0,.int .i64 0],.bool false]):=by
    show f_n _=_;rw[m_Q (r_a fun j p hj hp=>HK.out j p (by have:=HL.out;omega) hp)];rfl
   have hcs:=a_c w.heap.size;have hfs:=a_d;have hff:=HX.out.free;obtain⟨x0,x1,x2,x3,x4,x5,x6,x7,x8,x9⟩:=e_2 HX.out;have HR:=Lib.hid (c_n HX.out ord0).cells;have HBR:=Lib.hid (b_t HB.out (Nat.le_refl w.heap.size) ord0);go_wp2
   refine bodyPost_ret (v:=.tuple #[ordV ord0,.bool false]) ?_ rfl (i_s HF.out.symm HBR.out);obtain⟨r0,r1,r2,r3,r4,r5,r6,r7,r8,r9⟩:=HR.out;simp[results,Tryz.results245,go_sem,r0,r1,r2,r3,r4,r5,r6,r7,r8,r9]
theorem s_5{x s:Stp}(h:¬(s.ord=x.ord∧s.drop=x.drop)):x≠s:=fun e=>h (by rw[e];exact⟨rfl,rfl⟩)
theorem pindex_any(A:Option Addr)(n c:Nat)(l:List Stp)(s:Stp)(w:World)(hl:Stps w w.heap.size A n l):
 Calls Tryz.prog 162 #[.slice A n c,stpV s] w fun e w'=>∃i:Int,e=.returned (.int .i64 i)∧decide (0≤i)=decide (s∈l)∧Below w.heap.size w w':=by
 have hm:=Recs.le hl;have HL:=Lib.hid hl.length;have HB:Hid (Below w.heap.size w (w.alloc (.cells #[.int .i64 s.ord,.bool s.drop] 48))):=(Below.refl _ _).alloc (Nat.le_refl _) _;have HI:Hid (Stps (w.alloc (.cells #[.int .i64 s.ord,.bool s.drop] 48)) w.heap.size A n l):=Recs.keep hl HB.out;have hbx:=Blk.new w 48 [.int .i64 s.ord,.bool s.drop];have y0:=hbx.cell (i:=0) rfl;have y1:=hbx.cell (i:=1) rfl;clear hl hbx;go_enter Tryz.func162,Tryz.ntmps162;go_wp2
 go_loopw [8] (fun i wr=>∃(k d:Nat),k≤n∧i=.int .i64 k∧wr=(w.alloc (.cells #[.int .i64 s.ord,.bool s.drop] 48)).drewN d∧Hid (s∉l.take k)) (fun i _=>n-(intOf i).toNat)
 case atStart=>exact⟨0,0,Nat.zero_le _,rfl,rfl,(by simp:s∉l.take 0)⟩
 case round=>
  obtain⟨k,d,hk,rfl,rfl,HK⟩:=hrel;by_cases hlt:k<n
  ·obtain⟨b,off,x,rfl,_,hx,_,c0,c1⟩:=Stps.at_ HI.out hlt
   have HX:=Lib.hid hx;clear hx;by_cases he:s.ord=x.ord∧s.drop=x.drop
   ·have HF:Hid (decide ((0:Int)≤(k:Int))=decide (s∈l)):=by
     have:x=s:=Stp.ext_iff'.2 ⟨he.1.symm,he.2.symm⟩;have h2:s∈l:=this▸List.mem_of_getElem? HX.out;show decide _=decide _;rw[decide_eq_true h2,decide_eq_true (by omega)]
    obtain⟨e1,e2⟩:=he;rw[← e1]at c0;rw[← e2]at c1;clear e1 e2 HK;go_wp2
    go_quiet (fail)
    go_wp2
    go_ret;exact⟨_,rfl,HF.out,by first|exact a_l HB.out _|exact a_l (a_l HB.out _) _⟩
   ·have HN:Hid (s∉l.take (k+1)):=o_R HX.out (s_5 he) HK.out
    clear HK;by_cases e1:s.ord=x.ord
    ·have e2:¬s.drop=x.drop:=fun h=>he ⟨e1,h⟩
     have e3:(s.drop==x.drop)=false:=by simpa using e2
     rw[← e1]at c0;clear he e1 e2;go_wp2
     go_quiet (fail)
     go_wp2
     go_roundw
     case rel=>exact⟨k+1,_,by omega,by go_num,rfl,HN⟩
     case measure=>simp[intOf];omega
    ·have e3:(s.ord==x.ord)=false:=by simpa using e1
     clear he e1;go_wp2
     go_quiet (fail)
     go_wp2
     go_roundw
     case rel=>exact⟨k+1,_,by omega,by go_num,rfl,HN⟩
     case measure=>simp[intOf];omega
  ·have HF:Hid (decide ((0:Int)≤-1)=decide (s∈l)):=by
    have:=HK.out;rw[List.take_of_length_le (by have:=HL.out;omega)]at this;show decide _=decide _;rw[decide_eq_false this];rfl
   clear HK;go_wp2
   go_ret;exact⟨_,rfl,HF.out,by first|exact a_l HB.out _|exact a_l (a_l HB.out _) _⟩
theorem i_t(A:Option Addr)(n c:Nat)(l:List Stp)(s:Stp)(w:World)(hl:Stps w w.heap.size A n l):
 Calls Tryz.prog 134 #[.slice A n c,stpV s] w (a_y w (.bool (decide (s∈l)))):=by
 have hb:Below w.heap.size w (w.alloc (.cells #[.int .i64 s.ord,.bool s.drop] 48)):=(Below.refl _ _).alloc (Nat.le_refl _) _;have HB:=Lib.hid hb;have HI:Hid (Stps (w.alloc (.cells #[.int .i64 s.ord,.bool s.drop] 48)) (w.alloc (.cells #[.int .i64 s.ord,.bool s.drop] 48)).heap.size A n l):=Recs.more (Recs.keep hl hb) hb.size;clear hl hb;go_enter Tryz.func134,Tryz.ntmps134;go_wp2_with fail
 refine(pindex_any A n c l s _ (by exact HI.out)).mono ?_;rintro e w' ⟨i,rfl,hi,hb⟩;have HF:=Lib.hid hi;have HB2:=Lib.hid (HB.out.trans (hb.mono HB.out.size));clear hi hb;go_wp2_with fail
 go_ret;exact i_s (by rw[HF.out];rfl) HB2.out
theorem c_D(A:Option Addr)(n c:Nat)(l:List Stp)(s:Stp)(w:World)(b:Bool)(hl:Stps w w.heap.size A n l)(hb:decide (s∈l)=b):
 Calls Tryz.prog 134 #[.slice A n c,stpV s] w (a_y w (.bool b)):=by rw[← hb];exact i_t A n c l s w hl
def VBox(u:World)(g:Nat)(x:Vis):Prop:=Blk u g 245 [.int .i64 x.stop.ord,.bool x.stop.drop,.int .i64 x.arrive,.int .i64 x.start,.int .i64 x.leave,.int .i64 x.load]
theorem VBox.cells{u:World}{g:Nat}{x:Vis}(h:VBox u g x):u.cell? ⟨g,0,none⟩=some (.int .i64 x.stop.ord)∧u.cell? ⟨g,1,none⟩=some (.bool x.stop.drop)∧u.cell? ⟨g,2,none⟩=some (.int .i64 x.arrive)∧u.cell? ⟨g,3,none⟩=some (.int .i64 x.start)∧u.cell? ⟨g,4,none⟩=some (.int .i64 x.leave)∧u.cell? ⟨g,5,none⟩=some (.int .i64 x.load):=
 ⟨Blk.cell h rfl,Blk.cell h rfl,Blk.cell h rfl,Blk.cell h rfl,Blk.cell h rfl,Blk.cell h rfl⟩
theorem VBox.below{u u':World}{g:Nat}{x:Vis}(h:VBox u g x)(hb:Below u.heap.size u u'):VBox u' g x:=Blk.below h hb (Blk.lt h)
abbrev putV(u:World)(g:Nat)(x:Vis):World:=((((((u.setCell ⟨g,0,none⟩ (.int .i64 x.stop.ord)).setCell ⟨g,1,none⟩ (.bool x.stop.drop)).setCell ⟨g,2,none⟩ (.int .i64 x.arrive)).setCell ⟨g,3,none⟩ (.int .i64 x.start)).setCell ⟨g,4,none⟩ (.int .i64 x.leave)).setCell ⟨g,5,none⟩ (.int .i64 x.load))
theorem b_8{u:World}{g:Nat}{y:Vis}(h:VBox u g y)(x:Vis):VBox (putV u g x) g x:=by
 unfold VBox at h ⊢;exact((((((h.put 0 (.int .i64 x.stop.ord)).put 1 (.bool x.stop.drop)).put 2 (.int .i64 x.arrive)).put 3 (.int .i64 x.start)).put 4 (.int .i64 x.leave)).put 5 (.int .i64 x.load))
theorem c_3{B:Nat}{w u:World}{g:Nat}(h:Below B w u)(hg:B≤g)(x:Vis):Below B w (putV u g x):=((((((h.setCell hg _).setCell hg _).setCell hg _).setCell hg _).setCell hg _).setCell hg _)
abbrev vis0:Vis:=⟨⟨0,false⟩,0,0,0,0⟩
def TBox(u:World)(g:Nat)(q:Option Addr)(d:Drv)(A:Option Addr)(n c:Nat)(st:St):Prop:=Blk u g 281 [.pointer q,.int .i64 d.id,.int .i64 d.room,.int .i64 d.home,.int .i64 d.win.fr,.int .i64 d.win.to,.bool d.retired,.slice A n c,.int .i64 st.at_,.int .i64 st.left,.int .i64 st.load]
theorem TBox.cells{u:World}{g:Nat}{q:Option Addr}{d:Drv}{A:Option Addr}{n c:Nat}{st:St}(h:TBox u g q d A n c st):u.cell? ⟨g,0,none⟩=some (.pointer q)∧u.cell? ⟨g,1,none⟩=some (.int .i64 d.id)∧u.cell? ⟨g,2,none⟩=some (.int .i64 d.room)∧u.cell? ⟨g,3,none⟩=some (.int .i64 d.home)∧u.cell? ⟨g,4,none⟩=some (.int .i64 d.win.fr)∧u.cell? ⟨g,5,none⟩=some (.int .i64 d.win.to)∧u.cell? ⟨g,6,none⟩=some (.bool d.retired)∧u.cell? ⟨g,7,none⟩=some (.slice A n c)∧u.cell? ⟨g,8,none⟩=some (.int .i64 st.at_)∧u.cell? ⟨g,9,none⟩=some (.int .i64 st.left)∧u.cell? ⟨g,10,none⟩=some (.int .i64 st.load):=
 ⟨Blk.cell h rfl,Blk.cell h rfl,Blk.cell h rfl,Blk.cell h rfl,Blk.cell h rfl,Blk.cell h rfl,Blk.cell h rfl,Blk.cell h rfl,Blk.cell h rfl,Blk.cell h rfl,Blk.cell h rfl⟩
theorem TBox.below{u u':World}{g:Nat}{q:Option Addr}{d:Drv}{A:Option Addr}{n c:Nat}{st:St}(h:TBox u g q d A n c st)(hb:Below u.heap.size u u'):TBox u' g q d A n c st:=Blk.below h hb (Blk.lt h)
theorem q_n(base b n:Nat)(l:List Int)(a c t:Int)(w:World)(k:Nat)(h:MapAt (w.drewN k) 92 base b n l)(hn:n≤12)(ht:time ⟨n,l⟩ a c=t):
 Calls Tryz.prog 192 #[.pointer (some ⟨b,0,none⟩),.int .i64 a,.int .i64 c] (w.drewN k) fun e w'=>e=.returned (.tuple #[.int .i64 t,.bool (b_k n a && b_k n c)])∧∃m,w'=w.drewN m:=by
 have:=q_S (i_K base b n l a c (w.drewN k) h hn);rw[timeV_time.1,ht]at this;exact this
theorem f_G(x:Win)(t v:Int)(r:Bool)(w:World)(h:optV (a_3 x t)=.tuple #[.int .i64 v,.bool r]):Calls Tryz.prog 249 #[winV x,.int .i64 t] w (a_y w (.tuple #[.int .i64 v,.bool r])):=by rw[← h];exact m_S x t w
def j_M(a:Int):Option (Int×Int)→Value
 |none=>.tuple #[visV vis0,.bool false]
 |some p=>.tuple #[visV ⟨⟨0,false⟩,a,p.1,p.2,0⟩,.bool true]
theorem h_E{w w':World}{a:Int}{o:Option (Int×Int)}(h:o=none)(hb:Below w.heap.size w w'):a_y w (j_M a o) (.returned (.tuple #[visV vis0,.bool false])) w':=⟨by rw[h];rfl,hb⟩
theorem n_Q{w w':World}{a b v:Int}{o:Option (Int×Int)}(h:o=some (b,v))(hb:Below w.heap.size w w'):a_y w (j_M a o) (.returned (.tuple #[visV ⟨⟨0,false⟩,a,b,v,0⟩,.bool true])) w':=⟨by rw[h];rfl,hb⟩
theorem n_R(base bm mn:Nat)(ml:List Int)(d:Drv)(A:Option Addr)(n c:Nat)(st:St)(g:Nat)(si:Site)(w:World)(ht:TBox w g (some ⟨bm,0,none⟩) d A n c st)(hm:MapAt w 92 base bm mn ml)(hn:mn≤12)(hmap:IsMap mn ml)
 (lf1:0≤st.left) (lf2:st.left≤2000000) (sv1:0≤si.serv) (sv2:si.serv≤1000000):
 Calls Tryz.prog 246 #[.pointer (some ⟨g,0,none⟩),h_7 si] w (a_y w (j_M (st.left+time ⟨mn,ml⟩ st.at_ si.place) (FleetMath.served ⟨mn,ml⟩ st.at_ st.left si d.win.to))):=by
 obtain⟨hl0,hl1⟩:=b_1 hmap st.at_ si.place;obtain⟨t,htv⟩:∃t,time ⟨mn,ml⟩ st.at_ si.place=t:=⟨_,rfl⟩;rw[htv]at hl0 hl1 ⊢;have HT:=Lib.hid htv;obtain⟨o,ho⟩:∃o,FleetMath.served ⟨mn,ml⟩ st.at_ st.left si d.win.to=o:=⟨_,rfl⟩;rw[ho]
 have ho':o=match a_3 si.win (st.left+t)with|none=>none|some b=>if d.win.to<b+si.serv then none else some (b,b+si.serv):=by
  rw[← ho,←htv];rfl
 have HO:=Lib.hid ho';have HM:=Lib.hid hm;have HTB:=Lib.hid ht;clear hm hmap ht htv ho ho';go_enter Tryz.func246,Tryz.ntmps246;go_wp2
 obtain⟨u0,hu0⟩:∃u,(w.alloc (.cells #[.int .i64 si.place,.int .i64 si.win.fr,.int .i64 si.win.to,.int .i64 si.serv] 29)).alloc (.cells #[.int .i64 0,.bool false,.int .i64 0,.int .i64 0,.int .i64 0,.int .i64 0] 245)=u:=⟨_,rfl⟩;have b1:Below w.heap.size w (w.alloc (.cells #[.int .i64 si.place,.int .i64 si.win.fr,.int .i64 si.win.to,.int .i64 si.serv] 29)):=(Below.refl _ _).alloc (Nat.le_refl _) _;have HB0:Hid (Below w.heap.size w u0):=by rw[← hu0];exact b1.alloc b1.size _
 have HX0:Hid (SBox u0 w.heap.size si):=by
  rw[← hu0];exact SBox.below (s:=si) (Blk.new w _ _) ((Below.refl _ _).alloc (Nat.le_refl _) _)
 have HV0:Hid (VBox u0 (w.heap.size+1) vis0):=by
  have f:=Blk.new (w.alloc (.cells #[.int .i64 si.place,.int .i64 si.win.fr,.int .i64 si.win.to,.int .i64 si.serv] 29)) 245 [.int .i64 0,.bool false,.int .i64 0,.int .i64 0,.int .i64 0,.int .i64 0];rw[World.size_alloc]at f;rw[← hu0];exact f
 have HT0:Hid (TBox u0 g (some ⟨bm,0,none⟩) d A n c st):=HTB.out.below HB0.out;have HM0:Hid (∀ k,MapAt (u0.drewN k) 92 base bm mn ml):=fun k=>(HM.out.keep HB0.out (Nat.le_refl _)).drewN k;rw[hu0];clear b1 hu0 HTB HM;obtain⟨t0,_,_,_,_,t5,_,_,t8,t9,_⟩:=HT0.out.cells;obtain⟨c0,c1,c2,c3⟩:=HX0.out.cells;go_quiet ((go_at_call 192;with_reducible exact q_n base bm mn ml st.at_ si.place t _ _ (HM0.out _) hn HT.out))
 obtain⟨bq,hbq⟩:∃b,(b_k mn st.at_ && b_k mn si.place)=b:=⟨_,rfl⟩;rw[hbq];obtain⟨w1,hw1⟩:∃u,u0.drewN nq=u:=⟨_,rfl⟩;have HB1:Hid (Below w.heap.size w w1):=by rw[← hw1];exact a_l HB0.out _
 have HX1:Hid (SBox w1 w.heap.size si):=by rw[← hw1];exact HX0.out
 have HV1:Hid (VBox w1 (w.heap.size+1) vis0):=by rw[← hw1];exact HV0.out
 have HT1:Hid (TBox w1 g (some ⟨bm,0,none⟩) d A n c st):=by rw[← hw1];exact HT0.out
 rw[hw1];clear hbq hw1 HB0 HX0 HV0 HT0 HM0 HT t0 t5 t8 t9 c0 c1 c2 c3;obtain⟨t0,_,_,_,_,t5,_,_,t8,t9,_⟩:=HT1.out.cells;obtain⟨c0,c1,c2,c3⟩:=HX1.out.cells;cases hq:a_3 si.win (st.left+t)with
 |none=>
  have HQ:Hid (optV (a_3 si.win (st.left+t))=.tuple #[.int .i64 0,.bool false]):=by rw[hq];rfl
  have HN:Hid (o=none):=by have:=HO.out;rw[hq]at this;exact this
  clear hq HO;go_wp2_with fail
  refine(f_G si.win (st.left+t) 0 false _ HQ.out).mono ?_;rintro e w2 ⟨rfl,hb2⟩;have HB2:=Lib.hid (c_3 (HB1.out.trans (hb2.mono HB1.out.size)) (Nat.le_succ w.heap.size) vis0);have HV2:=Lib.hid (HV1.out.below hb2);have HX2:=Lib.hid (HX1.out.below hb2);clear hb2 t0 t5 t8 t9 c0 c1 c2 c3 HB1 HV1 HX1 HT1;obtain⟨c0,c1,c2,c3⟩:=HX2.out.cells;have hcs:=a_c (w.heap.size+1);have hfs:=a_d;have hff:=Blk.free HV2.out;obtain⟨x0,x1,x2,x3,x4,x5⟩:=HV2.out.cells;have HR:=Lib.hid (b_8 HV2.out vis0).cells;go_wp2_with fail
  refine bodyPost_ret (v:=.tuple #[visV vis0,.bool false]) ?_ rfl (h_E HN.out HB2.out);obtain⟨r0,r1,r2,r3,r4,r5⟩:=HR.out;simp[results,Tryz.results246,go_sem,r0,r1,r2,r3,r4,r5]
 |some v=>
  have HQ:Hid (optV (a_3 si.win (st.left+t))=.tuple #[.int .i64 v,.bool true]):=by rw[hq];rfl
  obtain⟨q1,q2,q3,q4,q5⟩:=c_c hq;have q6:=right_iff.1 (has_iff.1 q1).1;have q7:v≤1000000:=by omega
  have q8:0≤v:=by omega
  have ho2:=HO.out;rw[hq]at ho2;simp only at ho2;have HO2:=Lib.hid ho2;clear hq q1 q2 q3 q4 q5 q6 HO ho2;go_wp2_with fail
  refine(f_G si.win (st.left+t) v true _ HQ.out).mono ?_;rintro e w2 ⟨rfl,hb2⟩;have HB2:=Lib.hid (HB1.out.trans (hb2.mono HB1.out.size));have HV2:=Lib.hid (HV1.out.below hb2);have HX2:=Lib.hid (HX1.out.below hb2);have HT2:=Lib.hid (HT1.out.below hb2);clear hb2 t0 t5 t8 t9 c0 c1 c2 c3 HB1 HV1 HX1 HT1;obtain⟨t0,_,_,_,_,t5,_,_,t8,t9,_⟩:=HT2.out.cells;obtain⟨c0,c1,c2,c3⟩:=HX2.out.cells;have hcs:=a_c (w.heap.size+1);have hfs:=a_d;have hff:=Blk.free HV2.out;obtain⟨x0,x1,x2,x3,x4,x5⟩:=HV2.out.cells;by_cases hlt:d.win.to<v+si.serv
  ·have HN:Hid (o=none):=by have:=HO2.out;rw[if_pos hlt]at this;exact this
   have HR:=Lib.hid (b_8 HV2.out vis0).cells;have HB3:=Lib.hid (c_3 HB2.out (Nat.le_succ w.heap.size) vis0);clear HO2;go_wp2_with fail
   refine bodyPost_ret (v:=.tuple #[visV vis0,.bool false]) ?_ rfl (h_E HN.out HB3.out);obtain⟨r0,r1,r2,r3,r4,r5⟩:=HR.out;simp[results,Tryz.results246,go_sem,r0,r1,r2,r3,r4,r5]
  ·have HN:Hid (o=some (v,v+si.serv)):=by have:=HO2.out;rw[if_neg hlt]at this;exact this
   have HR:=Lib.hid (b_8 HV2.out ⟨⟨0,false⟩,st.left+t,v,v+si.serv,0⟩).cells;have HB3:=Lib.hid (c_3 HB2.out (Nat.le_succ w.heap.size) ⟨⟨0,false⟩,st.left+t,v,v+si.serv,0⟩);clear HO2;go_wp2_with fail
   refine bodyPost_ret (v:=.tuple #[visV ⟨⟨0,false⟩,st.left+t,v,v+si.serv,0⟩,.bool true]) ?_ rfl (n_Q HN.out HB3.out);obtain⟨r0,r1,r2,r3,r4,r5⟩:=HR.out;simp[results,Tryz.results246,go_sem,r0,r1,r2,r3,r4,r5]
end Route
end Go.Proofs.YtkpnmpjnpcjohaaGreat
