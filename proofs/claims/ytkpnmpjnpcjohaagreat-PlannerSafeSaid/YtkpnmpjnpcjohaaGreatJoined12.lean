import Derived.Test.YtkpnmpjnpcjohaaGreatJoined16
import Derived.Deep.RegionLaw
import Derived.Deep.RegionHeld3
import Derived.Deep.DeepCutAuto
import Derived.Test.YtkpnmpjnpcjohaaGreatGeoNews
namespace Go.Proofs.YtkpnmpjnpcjohaaGreat
open ChangeShapes WideShapes ChangeAt RowKit Mem GeoMath FleetMath Rec Geo Deal
namespace Route
open Span
def m_O(os:List FleetMath.Ord)(id:Int):Option Nat:=os.findIdx? fun o=>decide (o.id=id)
theorem h_p(os:List FleetMath.Ord)(id:Int):find os id=(m_O os id).bind (os[·]?):=by
 unfold find m_O;induction os with
 |nil=>rfl
 |cons o r ih=>
  rw[List.find?_cons,List.findIdx?_cons];by_cases h:o.id=id
  ·simp[h]
  ·simp only[h,decide_false,ih]
   cases hf:List.findIdx? (fun o=>decide (o.id=id)) r with
   |none=>simp
   |some i=>simp
theorem m_P{os:List FleetMath.Ord}{id:Int}{i:Nat}(h:m_O os id=some i):∃o,os[i]?=some o∧o.id=id∧find os id=some o:=by
 have hf:=h_p os id;rw[h]at hf;obtain⟨hlt,hp,_⟩:=List.findIdx?_eq_some_iff_getElem.1 h;have e:=List.getElem?_eq_getElem hlt;exact⟨os[i],e,by simpa using hp,by rw[hf];exact e⟩
theorem m_Q{os:List FleetMath.Ord}{id:Int}(h:m_O os id=none):find os id=none:=by rw[h_p,h];rfl
theorem q_9{os:List FleetMath.Ord}{id:Int}{k:Nat}{o:FleetMath.Ord}(h:∀j p,j<k→os[j]?=some p→p.id≠id)(ho:os[k]?=some o)(he:o.id=id):m_O os id=some k:=by
 obtain⟨hlt,hk⟩:=List.getElem?_eq_some_iff.1 ho;refine List.findIdx?_eq_some_iff_getElem.2 ⟨hlt,by rw[hk];simpa using he,fun j hj=>?_⟩;have:=h j _ hj (List.getElem?_eq_getElem (by omega));simpa using this
theorem r_a{os:List FleetMath.Ord}{id:Int}(h:∀j p,j<os.length→os[j]?=some p→p.id≠id):m_O os id=none:=by
 refine List.findIdx?_eq_none_iff.2 fun o ho=>?_;obtain⟨j,hj⟩:=List.getElem?_of_mem ho;have:=h j o (List.getElem?_eq_some_iff.1 hj).1 hj;simpa using this
theorem o_R{l:List Stp}{k:Nat}{x s:Stp}(hx:l[k]?=some x)(hne:x≠s)(h:s∉l.take k):s∉l.take (k+1):=by
 rw[List.take_add_one,hx];simp only[Option.toList_some,List.mem_append,List.mem_singleton,not_or];exact⟨h,fun e=>hne e.symm⟩
abbrev faultV(k:Nat)(e:Int):Value:=.agg #[.int .i64 k,.int .i64 e]
def h_5(w:World)(r:List Vis×Nat×Int)(e:Ending)(w':World):Prop:=
 Below w.heap.size w w'∧∃v,e=.returned (.tuple #[v,faultV r.2.1 r.2.2])∧OwnK w' w.heap.size 245 6 v r.1.length (c_p r.1)
theorem c_W{w:World}{B n k:Nat}{A:Option Addr}{l:List Stp}(h:Stps w B A n l)(hk:k≤n):Stps w B A k (l.take k):=by
 have hl:=h.length;refine⟨by rw[j_T,List.length_take];omega,by have:=h.2.1;omega,fun hp=>?_⟩;obtain⟨b,off,e,hb,hc⟩:=h.2.2 (by omega);refine⟨b,off,e,hb,fun j u hu=>hc j u ?_⟩;have e2:a_D l=a_D (l.take k)++a_D (l.drop k):=by rw[← f_q,List.take_append_drop]
 rw[e2,List.getElem?_append_left (List.getElem?_eq_some_iff.1 hu).1];exact hu
abbrev DX(w:World)(d:Drv):World:=(w.alloc (.cells #[.int .i64 d.id,.int .i64 d.room,.int .i64 d.home,.int .i64 d.win.fr,.int .i64 d.win.to,.bool d.retired] 33)).alloc (.cells #[.int .i64 0,.int .i64 0] 108)
theorem h_6{u:World}{t:TypeId}{base:Nat}{q:Option Addr}{n:Nat}{l:List Int}(h:MapP u t base (.pointer q) (some ⟨n,l⟩)):∃b,q=some ⟨b,0,none⟩:=by
 rcases h with⟨_,h⟩|⟨b,_,_,h,_⟩
 ·cases h
 ·injection h with h;exact⟨b,h⟩
theorem f_Y{u:World}{t:TypeId}{base b n:Nat}{l:List Int}(h:MapP u t base (.pointer (some ⟨b,0,none⟩)) (some ⟨n,l⟩)):MapAt u t base b n l∧n≤12∧IsMap n l:=by
 rcases h with⟨_,h⟩|⟨b',n',l',h1,h2,h3,_,h5,h6⟩
 ·cases h
 ·injection h1 with h1
  injection h1 with h1;injection h1 with h1;injection h2 with h2;injection h2 with h2 h2';subst h1;subst h2;subst h2';exact⟨h3,h5,h6⟩
theorem o_S(vs:List Vis)(x:Vis):c_p (vs++[x])=c_p vs++[.int .i64 x.stop.ord,.bool x.stop.drop,.int .i64 x.arrive,.int .i64 x.start,.int .i64 x.leave,.int .i64 x.load]:=by
 rw[j_U];rfl
theorem c_w{w u:World}{r:List Vis×Nat×Int}{k:Nat}{e:Int}(h:r=([],k,e))(hb:Below w.heap.size w u):h_5 w r (.returned (.tuple #[.slice none 0 0,faultV k e])) u:=by
 subst h;exact⟨hb,_,rfl,OwnK.nil _ _ _ _⟩
end Route
namespace Keep
structure Sl where
 a:Option Addr
 n:Nat
 c:Nat
 h:n≤c
abbrev Sl.v(s:Sl):Value:=.slice s.a s.n s.c
structure Wd where
 n:Int
 ts:Sl
 ds:Sl
 os:Sl
 pl:Sl
abbrev wdV(x:Wd):Value:=.agg #[.int .i64 x.n,x.ts.v,x.ds.v,x.os.v,x.pl.v]
def WBox(u:World)(g:Nat)(x:Wd):Prop:=Blk u g 55 [.int .i64 x.n,x.ts.v,x.ds.v,x.os.v,x.pl.v]
theorem WBox.new(u:World)(x:Wd):WBox (u.alloc (.cells #[.int .i64 x.n,x.ts.v,x.ds.v,x.os.v,x.pl.v] 55)) u.heap.size x:=Blk.new u _ _
theorem WBox.below{u u':World}{g:Nat}{x:Wd}(h:WBox u g x)(hb:Below u.heap.size u u'):WBox u' g x:=Blk.below h hb (Blk.lt h)
theorem WBox.cells{u:World}{g:Nat}{x:Wd}(h:WBox u g x):u.cell? ⟨g,0,none⟩=some (.int .i64 x.n)∧u.cell? ⟨g,1,none⟩=some x.ts.v∧u.cell? ⟨g,2,none⟩=some x.ds.v∧u.cell? ⟨g,3,none⟩=some x.os.v∧u.cell? ⟨g,4,none⟩=some x.pl.v:=
 ⟨Blk.cell h rfl,Blk.cell h rfl,Blk.cell h rfl,Blk.cell h rfl,Blk.cell h rfl⟩
def f_r(nn:Int)(ts:List Int):Option Mp:=if newE nn ts=0 then some ⟨nn.toNat,ts⟩else none
theorem t_j(nn v:Int)(A:Option Addr)(k c:Nat)(xs:List Int)(w:World)(h:Ints w w.heap.size A k xs)(hv:newE nn xs=v):
 Calls Tryz.prog 10 #[.int .i64 nn,.slice A k c] w fun e w'=>∃q,e=.returned (.tuple #[.pointer q,.int .i64 v])∧q.isNone=(v != 0)∧Below w.heap.size w w'∧MapP w' 92 w.heap.size (.pointer q) (f_r nn xs):=by
 refine(q_R nn A k c xs w h).mono ?_;subst hv;rintro e w' ⟨hb,⟨h1,rfl⟩|⟨h1,b,n',e1,rfl,hm⟩⟩
 ·exact⟨none,rfl,by simpa using h1,hb,.inl ⟨rfl,by simp[f_r,h1]⟩⟩
 ·subst e1
  have h2:=k_J h1;exact⟨some ⟨b,0,none⟩,by rw[h1],by simp[h1],hb,.inr ⟨b,n',xs,rfl,by simp[f_r,h1],hm,h2⟩⟩
theorem t_G(nn v:Int)(A:Option Addr)(k c:Nat)(xs:List Int)(w:World)(h:Ints w w.heap.size A k xs)(hv:newE nn xs=v):
 Calls Tryz.prog 56 #[.int .i64 nn,.slice A k c] w fun e w'=>∃q,e=.returned (.tuple #[.pointer q,.int .i64 v])∧q.isNone=(v != 0)∧Below w.heap.size w w'∧MapP w' 171 w.heap.size (.pointer q) (f_r nn xs):=by
 refine(q_P nn A k c xs w h).mono ?_;subst hv;rintro e w' ⟨hb,⟨h1,rfl⟩|⟨h1,b,n',e1,rfl,hm⟩⟩
 ·exact⟨none,rfl,by simpa using h1,hb,.inl ⟨rfl,by simp[f_r,h1]⟩⟩
 ·subst e1
  have h2:=k_J h1;exact⟨some ⟨b,0,none⟩,by rw[h1],by simp[h1],hb,.inr ⟨b,n',xs,rfl,by simp[f_r,h1],hm,h2⟩⟩
def o_T(w:World)(m:Option Mp)(e:Ending)(w':World):Prop:=
 Below w.heap.size w w'∧∃q r,e=.returned (.tuple #[.pointer q,.pointer r,.bool true])∧MapP w' 92 w.heap.size (.pointer q) m∧MapP w' 171 w.heap.size (.pointer r) m
theorem i_R(x:Wd)(ts:List Int)(w:World)(h:Ints w w.heap.size x.ts.a x.ts.n ts):
 Calls Tryz.prog 18 #[wdV x] w (o_T w (f_r x.n ts)):=by
 obtain⟨v,hv⟩:∃v,newE x.n ts=v:=⟨_,rfl⟩;have HV:=Lib.hid hv;have HB0:Hid (Below w.heap.size w (w.alloc (.cells #[.int .i64 x.n,x.ts.v,x.ds.v,x.os.v,x.pl.v] 55))):=(Below.refl _ _).alloc (Nat.le_refl _) _;have HI0:Hid (Ints (w.alloc (.cells #[.int .i64 x.n,x.ts.v,x.ds.v,x.os.v,x.pl.v] 55)) w.heap.size x.ts.a x.ts.n ts):=Reads.keep h HB0.out;have HX0:=Lib.hid (WBox.new w x);clear h hv;go_enter Tryz.func18,Tryz.ntmps18;go_wp2_with fail
 refine(t_j x.n v x.ts.a x.ts.n x.ts.c ts _ (Reads.more HI0.out HB0.out.size) HV.out).mono ?_;rintro e w1 ⟨q,rfl,hq,hb1,hm1⟩;have HB1:Hid (Below w.heap.size w w1):=HB0.out.trans (hb1.mono HB0.out.size);have HM1:=Lib.hid (hm1.lower HB0.out.size);have HX1:=Lib.hid (HX0.out.below hb1);have HI1:Hid (Ints w1 w.heap.size x.ts.a x.ts.n ts):=Reads.keep HI0.out (hb1.mono HB0.out.size);obtain⟨c0,c1,c2,c3,c4⟩:=HX1.out.cells;clear hb1 hm1 HB0 HI0 HX0;have HQ:=Lib.hid hq;clear hq;go_wp2_with fail
 refine(t_G x.n v x.ts.a x.ts.n x.ts.c ts _ (Reads.more HI1.out HB1.out.size) HV.out).mono ?_;rintro e w2 ⟨r,rfl,hr,hb2,hm2⟩
 have HF:Hid (o_T w (f_r x.n ts) (.returned (.tuple #[.pointer q,.pointer r,.bool true])) w2):=
  ⟨HB1.out.trans (hb2.mono HB1.out.size),q,r,rfl,HM1.out.keep hb2,hm2.lower HB1.out.size⟩
 have hqr:q.isNone=r.isNone:=HQ.out.trans hr.symm;clear hb2 hm2 hr HB1 HM1 HX1 HI1 HQ HV c0 c1 c2 c3 c4;cases q with
 |none=>
  cases r with
  |none=>
   clear hqr;go_wp2_with fail
   go_ret3
   exact HF.out
  |some y=>cases hqr
 |some z=>
  cases r with
  |none=>cases hqr
  |some y=>
   clear hqr;go_wp2_with fail
   go_ret3
   exact HF.out
end Keep
end Go.Proofs.YtkpnmpjnpcjohaaGreat
